package tests

import (
	"math"
	"slices"
	"testing"

	"loop.example/g01348/impl"
)

// arguments10 has the arguments of a function of chapter 10: a complex, a list, and a number, the hidden set
// or n.
type arguments10 struct {
	k    impl.Complex
	list []int64
	x    int64
}

// call10 is a function of chapter 10.
type call10 struct {
	name string
	run  func(g arguments10) result9
}

// numberCalls10 returns the functions of chapter 10 with a number n and a list.
func numberCalls10() []call10 {
	return []call10{
		{"IsTree", func(g arguments10) (r result9) {
			r.flag, r.code = impl.IsTree(g.x, g.list)
			return r
		}},
		{"TreeOfOrder", func(g arguments10) (r result9) {
			r.list, r.code = impl.TreeOfOrder(g.x, g.list)
			return r
		}},
	}
}

// questionsFor10 is the function of chapter 10 with a hidden set.
func questionsFor10() call10 {
	return call10{"QuestionsFor", func(g arguments10) (r result9) {
		r.list, r.code = impl.QuestionsFor(g.k, g.list, g.x)
		return r
	}}
}

// treeCalls10 returns the functions of chapter 10 with a complex and a tree.
func treeCalls10() []call10 {
	return []call10{
		questionsFor10(),
		{"EvadersOf", func(g arguments10) (r result9) {
			r.list, r.code = impl.EvadersOf(g.k, g.list)
			return r
		}},
		{"PairingOfTree", func(g arguments10) (r result9) {
			r.pairs, r.code = impl.PairingOfTree(g.k, g.list)
			return r
		}},
	}
}

// complexCalls10 returns the functions of chapter 10 with a complex.
func complexCalls10() []call10 {
	return append(treeCalls10(),
		call10{"QuestionNumber", func(g arguments10) (r result9) {
			r.number, r.code = impl.QuestionNumber(g.k)
			return r
		}},
		call10{"IsEvasive", func(g arguments10) (r result9) {
			r.flag, r.code = impl.IsEvasive(g.k)
			return r
		}},
		call10{"LeastEvaders", func(g arguments10) (r result9) {
			r.number, r.code = impl.LeastEvaders(g.k)
			return r
		}},
		call10{"BestTree", func(g arguments10) (r result9) {
			r.list, r.code = impl.BestTree(g.k)
			return r
		}},
	)
}

// checkCode10 checks that a function returns an error code, and zero values beside it.
func checkCode10(t *testing.T, c call10, g arguments10, code int64) {
	t.Helper()
	if r := c.run(g); r.code != code || !r.isZero() {
		t.Fatalf("%s of %v: %v; want %d", c.name, g, r, code)
	}
}

// TestInvalidComplexesComeAheadOfTrees gives invalid complexes along with trees and hidden sets that are as
// told, and with some that are not.
func TestInvalidComplexesComeAheadOfTrees(t *testing.T) {
	for _, k := range append(invalidComplexes(), complexOn(3, 7), complexOn(5, 3), complexOn(6, 63)) {
		for _, list := range [][]int64{nil, {0}, {0, 1, 1}, {0, 1, 1, 2, 2, 2, 2}, {0, 0, 0}, {-1}, {7, 7, 7}, orderedTree(numbersBelow(6)), make([]int64, 5000)} {
			for _, x := range []int64{0, 1, 3, 63, 64, -1, math.MaxInt64, math.MinInt64} {
				for _, c := range complexCalls10() {
					checkCode10(t, c, arguments10{k, list, x}, impl.ErrInvalid)
				}
			}
		}
	}
}

// listsThatAreNoTrees returns lists that are no tree of n: trees of other numbers, those with too few or too
// many numbers, those with one that is out of range, and those that ask for one twice on a way.
func listsThatAreNoTrees(n int64) [][]int64 {
	lists := [][]int64{nil, {}, make([]int64, 5000), slices.Repeat([]int64{math.MaxInt64}, 5000), slices.Repeat([]int64{-1}, 1<<n-1)}
	for m := int64(1); m <= impl.MaxVertices+1; m++ {
		if m != n {
			lists = append(lists, orderedTree(numbersBelow(m)))
		}
	}
	tree := scatteredTrees(n, 1)[2]
	last := len(tree) - 1
	lists = append(lists, tree[:last], tree[1:], append(slices.Clone(tree), 0), append(slices.Clone(tree), tree[last]), append([]int64{0}, tree...), slices.Concat(tree, tree))
	for place := range tree {
		for _, bad := range append([]int64{-1, n, n + 1, -64, 6, 63, 64}, hugeNumbers()...) {
			changed := slices.Clone(tree)
			changed[place] = bad
			lists = append(lists, changed)
		}
		for above := (place - 1) / 2; place > 0 && above >= 0; above = (above+1)/2 - 1 {
			changed := slices.Clone(tree)
			changed[place] = tree[above]
			lists = append(lists, changed)
		}
	}
	return lists
}

func TestListsThatAreNoTrees(t *testing.T) {
	for n := int64(1); n <= impl.MaxVertices; n++ {
		for _, list := range listsThatAreNoTrees(n) {
			if yes, code := impl.IsTree(n, list); code != impl.ErrNone || yes {
				t.Fatalf("IsTree(%d, %v) = %v, %d", n, list, yes, code)
			}
			for _, k := range []impl.Complex{complexOn(n), complexOn(n, 1), fullComplex(n)} {
				for _, x := range []int64{0, 1<<n - 1, 1 << n, -1} {
					for _, c := range treeCalls10() {
						checkCode10(t, c, arguments10{k, list, x}, impl.ErrRange)
					}
				}
			}
		}
	}
}

// TestHiddenSetsOutOfRange gives hidden sets below 0 and above 2^n - 1, and all those between.
func TestHiddenSetsOutOfRange(t *testing.T) {
	for n := int64(1); n <= impl.MaxVertices; n++ {
		tree := orderedTree(numbersBelow(n))
		for _, k := range []impl.Complex{complexOn(n), complexOn(n, 1), fullComplex(n)} {
			for _, x := range append([]int64{-1, -2, -(1 << n), 1 << n, 1<<n + 1, 1 << (n + 1), 64, 65, 127}, hugeNumbers()...) {
				checkCode10(t, questionsFor10(), arguments10{k, tree, x}, impl.ErrRange)
			}
			for x := range int64(1) << n {
				if questions, code := impl.QuestionsFor(k, tree, x); code != impl.ErrNone || !slices.Equal(questions, neededByRule(k, tree, x)) {
					t.Errorf("QuestionsFor(%v, %v, %d) = %v, %d", k, tree, x, questions, code)
				}
			}
		}
	}
}

// TestNumbersThatHaveNoTrees gives an n below 1 and above MaxVertices, with lists that would be trees and
// orders of so many numbers, and with others.
func TestNumbersThatHaveNoTrees(t *testing.T) {
	for _, n := range append([]int64{0, -1, -2, -6, 7, 8, 9, 62, 63, 64, 65, -64}, hugeNumbers()...) {
		for _, list := range [][]int64{nil, {}, {0}, {0, 1}, {0, 1, 1}, {-1}, {n}, numbersBelow(6), numbersBelow(7), numbersBelow(8), orderedTree(numbersBelow(6)), orderedTree(numbersBelow(7)), orderedTree(numbersBelow(8))} {
			for _, c := range numberCalls10() {
				checkCode10(t, c, arguments10{list: list, x: n}, impl.ErrRange)
			}
		}
	}
}

// TestListsThatAreNoOrders gives lists that have a number twice, lack one, or have one that is out of range.
func TestListsThatAreNoOrders(t *testing.T) {
	treeOfOrder := numberCalls10()[1]
	for n := int64(1); n <= impl.MaxVertices; n++ {
		order := numbersBelow(n)
		lists := [][]int64{nil, {}, order[:n-1], append(slices.Clone(order), n), append(slices.Clone(order), 0), append(slices.Clone(order), n-1), order[1:], orderedTree(numbersBelow(7)), make([]int64, 5000)}
		for place := range order {
			for _, bad := range append([]int64{-1, n, n + 1, 6, 64}, hugeNumbers()...) {
				changed := slices.Clone(order)
				changed[place] = bad
				lists = append(lists, changed)
			}
			for _, other := range order {
				if changed := slices.Clone(order); other != order[place] {
					changed[place] = other
					lists = append(lists, changed)
				}
			}
		}
		for _, list := range lists {
			checkCode10(t, treeOfOrder, arguments10{list: list, x: n}, impl.ErrRange)
		}
	}
}

// arguments10WithRoom returns arguments with spare capacity behind both lists.
func arguments10WithRoom(g arguments10) arguments10 {
	roomy := func(list []int64) []int64 {
		return append(slices.Clone(list), slices.Repeat([]int64{77}, 80)...)[:len(list)]
	}
	g.k.Faces, g.list = roomy(g.k.Faces), roomy(g.list)
	return g
}

// whole10 returns a copy of the lists of arguments with what is behind them.
func whole10(g arguments10) [][]int64 {
	return [][]int64{slices.Clone(g.k.Faces[:cap(g.k.Faces)]), slices.Clone(g.list[:cap(g.list)])}
}

// gameArguments returns arguments of the functions of chapter 10, some of them with errors.
func gameArguments(t *testing.T) []arguments10 {
	t.Helper()
	circle := named(t, "circle")
	return []arguments10{
		{complexOn(1), []int64{0}, 1}, {complexOn(1, 1), []int64{0}, 1}, {complexOn(2, 1, 2), []int64{1, 0, 0}, 2}, {circle, []int64{1, 0, 2, 2, 2, 0, 0}, 7}, {circle, []int64{2, 0, 1}, 3},
		{fullComplex(6), orderedTree([]int64{5, 2, 0, 1, 3, 4}), 63}, {complexOn(6), orderedTree(numbersBelow(6)), 0}, {named(t, "projective"), scatteredTrees(6, 1)[2], 21}, {named(t, "tree"), []int64{0, 1, 2, 3, 4, 5}, 6},
		{circle, []int64{0, 1, 1, 2, 2, 2, 0}, 3}, {complexOn(2, 3), []int64{0, 1, 1}, 2}, {circle, []int64{0, 1, 1, 2, 2, 2, 2}, 8}, // with errors
	}
}

// TestGamesLeaveArgumentsAndGiveNewResults gives lists with spare capacity, spoils each result, and looks
// whether the arguments or a second result have changed.
func TestGamesLeaveArgumentsAndGiveNewResults(t *testing.T) {
	for _, g := range gameArguments(t) {
		given := arguments10WithRoom(g)
		before := whole10(given)
		for _, call := range append(complexCalls10(), numberCalls10()...) {
			first := call.run(given)
			kept := first.kept()
			first.spoil()
			if second := call.run(given); !second.equals(kept) {
				t.Errorf("%s of %v: %v, then %v", call.name, g, kept, second)
			}
			if after := whole10(given); !sameRows(after, before) {
				t.Fatalf("%s changed its arguments: %v", call.name, after)
			}
		}
	}
}

// TestGamesGiveTheSameAgainAndInParallel calls the functions several times, also from several goroutines and
// among calls with errors, as none keeps state between calls.
func TestGamesGiveTheSameAgainAndInParallel(t *testing.T) {
	all := gameArguments(t)
	for _, call := range append(complexCalls10(), numberCalls10()...) {
		wanted := make([]result9, len(all))
		for i, g := range all {
			wanted[i] = call.run(g)
		}
		done := make(chan bool)
		for range 8 {
			go func() {
				same := true
				for i, g := range slices.Backward(all) {
					same = same && call.run(g).equals(wanted[i])
				}
				done <- same
			}()
		}
		for range 8 {
			if !<-done {
				t.Errorf("%s: other results in parallel than before", call.name)
			}
		}
	}
}
