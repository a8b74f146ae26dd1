package tests

import (
	"slices"
	"testing"

	"loop.example/g01348/impl"
)

func TestQuestionNumberAndLeastEvaders(t *testing.T) {
	for _, c := range []struct {
		text            string
		number, evaders int64
	}{
		{"1:", 1, 2}, {"1:0", 0, 0},
		{"2:", 2, 2}, {"2:0", 1, 0}, {"2:1", 1, 0}, {"2:0,1", 2, 2}, {"2:01", 0, 0},
		{"3:", 3, 2}, {"3:0", 2, 0}, {"3:1", 2, 0}, {"3:01", 1, 0}, {"3:12", 1, 0}, {"3:0,1", 3, 2}, {"3:0,1,2", 3, 4}, {"3:0,12", 3, 2}, {"3:01,02", 2, 0}, {"3:01,12", 2, 0},
		{"3:01,02,12", 3, 2}, {"3:012", 0, 0},
		{"4:", 4, 2}, {"4:3", 3, 0}, {"4:23", 2, 0}, {"4:123", 1, 0}, {"4:0123", 0, 0}, {"4:0,1,2,3", 4, 6}, {"4:01,23", 4, 2}, {"4:01,12,23", 3, 0}, {"4:01,12,23,03", 4, 2},
		{"4:012,013,023,123", 4, 2}, {"4:01,02,03", 3, 0}, {"4:012,23", 3, 0}, {"4:01,02,12,3", 4, 4}, {"4:01,02,03,12,13,23", 4, 6},
		{"5:", 5, 2}, {"5:4", 4, 0}, {"5:01234", 0, 0}, {"5:0123", 1, 0}, {"5:012", 2, 0}, {"5:012,34", 5, 2}, {"5:01,12,23,34,04", 5, 2}, {"5:04,14,24,34", 4, 0}, {"5:0,1,2,3,4", 5, 8},
		{"6:", 6, 2}, {"6:5", 5, 0}, {"6:012345", 0, 0}, {"6:01234", 1, 0}, {"6:0123", 2, 0}, {"6:012,345", 6, 2}, {"6:0,1,2,3,4,5", 6, 10}, {"6:01234,01235,01245,01345,02345,12345", 6, 2},
	} {
		k := madeOf(t, c.text)
		if number, code := impl.QuestionNumber(k); code != impl.ErrNone || number != c.number {
			t.Errorf("QuestionNumber(%q) = %d, %d; want %d", c.text, number, code, c.number)
		}
		if evasive, code := impl.IsEvasive(k); code != impl.ErrNone || evasive != (c.number == k.Vertices) {
			t.Errorf("IsEvasive(%q) = %v, %d", c.text, evasive, code)
		}
		if evaders, code := impl.LeastEvaders(k); code != impl.ErrNone || evaders != c.evaders {
			t.Errorf("LeastEvaders(%q) = %d, %d; want %d", c.text, evaders, code, c.evaders)
		}
	}
}

func TestGamesOfNamedComplexes(t *testing.T) {
	for _, c := range []struct {
		name            string
		number, evaders int64
	}{
		{"point", 0, 0}, {"circle", 3, 2}, {"square", 4, 2}, {"sphere", 4, 2}, {"ball", 0, 0}, {"bipyramid", 5, 2}, {"octahedron", 6, 2}, {"moebius", 5, 2}, {"projective", 6, 4}, {"wedge", 5, 4}, {"tree", 5, 0},
	} {
		k := named(t, c.name)
		number, code := impl.QuestionNumber(k)
		evaders, code2 := impl.LeastEvaders(k)
		if code != impl.ErrNone || code2 != impl.ErrNone || number != c.number || evaders != c.evaders {
			t.Errorf("%s: %d questions, %d; %d evaders, %d; want %d and %d", c.name, number, code, evaders, code2, c.number, c.evaders)
		}
	}
}

func TestIsTree(t *testing.T) {
	for _, c := range []struct {
		n    int64
		tree []int64
		want bool
	}{
		{1, []int64{0}, true}, {1, nil, false}, {1, []int64{}, false}, {1, []int64{1}, false}, {1, []int64{-1}, false}, {1, []int64{0, 0}, false}, {1, []int64{0, 1, 1}, false},
		{2, []int64{0, 1, 1}, true}, {2, []int64{1, 0, 0}, true}, {2, []int64{0}, false}, {2, []int64{0, 1}, false}, {2, []int64{0, 1, 1, 0}, false}, {2, []int64{0, 0, 1}, false}, {2, []int64{0, 1, 0}, false},
		{2, []int64{1, 0, 1}, false}, {2, []int64{0, 1, 2}, false}, {2, []int64{0, 2, 1}, false}, {2, []int64{2, 0, 1}, false}, {2, []int64{0, -1, 1}, false}, {2, []int64{-1, 0, 0}, false}, {2, nil, false},
		{3, []int64{0, 1, 1, 2, 2, 2, 2}, true}, {3, []int64{1, 0, 2, 2, 2, 0, 0}, true}, {3, []int64{2, 1, 0, 0, 0, 1, 1}, true}, {3, []int64{2, 1, 1, 0, 0, 0, 0}, true},
		{3, []int64{0, 1, 1, 2, 2, 2, 0}, false}, {3, []int64{0, 1, 1, 2, 2, 1, 2}, false}, {3, []int64{0, 1, 2, 2, 2, 2, 1}, false}, {3, []int64{0, 0, 1, 2, 2, 2, 2}, false}, {3, []int64{0, 1, 1, 0, 2, 2, 2}, false},
		{3, []int64{0, 1, 1, 2, 2, 2, 3}, false}, {3, []int64{0, 1, 1, 2, 2, 2}, false}, {3, []int64{0, 1, 1, 2, 2, 2, 2, 2}, false}, {3, []int64{0, 1, 1}, false}, {3, []int64{0, 1, 2}, false},
		{4, []int64{0, 1, 1, 2, 2, 2, 2}, false}, {4, []int64{3, 0, 1, 1, 2, 2, 0, 2, 2, 1, 1, 0, 0, 2, 2}, true}, {4, []int64{3, 0, 1, 1, 2, 2, 0, 2, 2, 1, 1, 0, 0, 2, 3}, false},
	} {
		if got, code := impl.IsTree(c.n, c.tree); code != impl.ErrNone || got != c.want {
			t.Errorf("IsTree(%d, %v) = %v, %d; want %v", c.n, c.tree, got, code, c.want)
		}
	}
}

// TestTreesWithOneQuestionChanged puts each number in 0..n, and -1, at each place of trees.
func TestTreesWithOneQuestionChanged(t *testing.T) {
	for n := int64(1); n <= impl.MaxVertices; n++ {
		for _, tree := range scatteredTrees(n, 4) {
			for place := range tree {
				for question := int64(-1); question <= n; question++ {
					changed := slices.Clone(tree)
					changed[place] = question
					if got, code := impl.IsTree(n, changed); code != impl.ErrNone || got != isTreeByRule(n, changed) {
						t.Fatalf("IsTree(%d, %v) = %v, %d", n, changed, got, code)
					}
				}
			}
		}
	}
}

// TestAllListsOfThree looks at all lists of seven of the numbers 0, 1, 2: twelve are trees.
func TestAllListsOfThree(t *testing.T) {
	count := 0
	for list := range allMaps(7, 3) {
		got, code := impl.IsTree(3, list)
		if code != impl.ErrNone || got != isTreeByRule(3, list) {
			t.Fatalf("IsTree(3, %v) = %v, %d", list, got, code)
		}
		if got {
			count++
		}
	}
	if count != 12 || len(allTrees(3)) != 12 || len(allTrees(4)) != 576 {
		t.Errorf("%d trees, want 12; helpers: %d, and %d of 4", count, len(allTrees(3)), len(allTrees(4)))
	}
}

func TestTreeOfOrder(t *testing.T) {
	for _, c := range []struct {
		order, want []int64
	}{
		{[]int64{0}, []int64{0}},
		{[]int64{0, 1}, []int64{0, 1, 1}}, {[]int64{1, 0}, []int64{1, 0, 0}},
		{[]int64{2, 0, 1}, []int64{2, 0, 0, 1, 1, 1, 1}},
		{[]int64{3, 1, 2, 0}, []int64{3, 1, 1, 2, 2, 2, 2, 0, 0, 0, 0, 0, 0, 0, 0}},
	} {
		if got, code := impl.TreeOfOrder(int64(len(c.order)), c.order); code != impl.ErrNone || !slices.Equal(got, c.want) {
			t.Errorf("TreeOfOrder(%v) = %v, %d; want %v", c.order, got, code, c.want)
		}
	}
	for n := int64(1); n <= impl.MaxVertices; n++ {
		for _, order := range permutations(n) {
			got, code := impl.TreeOfOrder(n, order)
			if code != impl.ErrNone || !slices.Equal(got, orderedTree(order)) || !isTreeByRule(n, got) {
				t.Fatalf("TreeOfOrder(%d, %v) = %v, %d", n, order, got, code)
			}
			for hidden := range int64(1) << n {
				if way := wayByRule(got, hidden); !slices.Equal(way, order) {
					t.Fatalf("TreeOfOrder(%d, %v): for %d it asks %v", n, order, hidden, way)
				}
			}
		}
	}
}

func TestQuestionsFor(t *testing.T) {
	byAnswers := []int64{1, 0, 2, 2, 2, 0, 0} // 1; behind no 0, 2; behind yes 2, 0
	for _, c := range []struct {
		text   string
		tree   []int64
		hidden int64
		want   []int64
	}{
		{"1:", []int64{0}, 0, []int64{0}}, {"1:", []int64{0}, 1, []int64{0}}, {"1:0", []int64{0}, 0, nil}, {"1:0", []int64{0}, 1, nil},
		{"2:0,1", []int64{1, 0, 0}, 0, []int64{1}}, {"2:0,1", []int64{1, 0, 0}, 1, []int64{1}}, {"2:0,1", []int64{1, 0, 0}, 2, []int64{1, 0}}, {"2:0,1", []int64{1, 0, 0}, 3, []int64{1, 0}},
		{"2:", []int64{0, 1, 1}, 0, []int64{0, 1}}, {"2:", []int64{0, 1, 1}, 1, []int64{0}}, {"2:", []int64{0, 1, 1}, 2, []int64{0, 1}}, {"2:", []int64{0, 1, 1}, 3, []int64{0}},
		{"2:0", []int64{0, 1, 1}, 1, []int64{0, 1}}, {"2:0", []int64{1, 0, 0}, 1, []int64{1}}, {"2:0", []int64{1, 0, 0}, 2, []int64{1}}, {"2:01", []int64{1, 0, 0}, 2, nil},
		{"3:01,02,12", byAnswers, 0, []int64{1}}, {"3:01,02,12", byAnswers, 5, []int64{1}}, {"3:01,02,12", byAnswers, 2, []int64{1, 2}}, {"3:01,02,12", byAnswers, 3, []int64{1, 2}}, {"3:01,02,12", byAnswers, 6, []int64{1, 2, 0}}, {"3:01,02,12", byAnswers, 7, []int64{1, 2, 0}},
		{"3:0,12", byAnswers, 0, []int64{1, 0}}, {"3:0,12", byAnswers, 1, []int64{1, 0, 2}}, {"3:0,12", byAnswers, 4, []int64{1, 0}}, {"3:0,12", byAnswers, 5, []int64{1, 0, 2}}, {"3:0,12", byAnswers, 2, []int64{1, 2, 0}}, {"3:0,12", byAnswers, 7, []int64{1, 2, 0}},
		{"3:", byAnswers, 0, []int64{1, 0, 2}}, {"3:", byAnswers, 4, []int64{1, 0, 2}}, {"3:", byAnswers, 1, []int64{1, 0}}, {"3:", byAnswers, 7, []int64{1}}, {"3:012", byAnswers, 7, nil}, {"3:012", byAnswers, 0, nil},
		{"6:01234", orderedTree([]int64{5, 4, 3, 2, 1, 0}), 63, []int64{5}}, {"6:01234", orderedTree([]int64{0, 1, 2, 3, 4, 5}), 63, []int64{0, 1, 2, 3, 4, 5}}, {"6:", orderedTree([]int64{0, 1, 2, 3, 4, 5}), 63, []int64{0}}, {"6:", orderedTree([]int64{0, 1, 2, 3, 4, 5}), 32, []int64{0, 1, 2, 3, 4, 5}},
	} {
		if got, code := impl.QuestionsFor(madeOf(t, c.text), c.tree, c.hidden); code != impl.ErrNone || !slices.Equal(got, c.want) {
			t.Errorf("QuestionsFor(%q, %v, %d) = %v, %d; want %v", c.text, c.tree, c.hidden, got, code, c.want)
		}
	}
}

func TestEvadersOf(t *testing.T) {
	for _, c := range []struct {
		text       string
		tree, want []int64
	}{
		{"1:", []int64{0}, []int64{0, 1}}, {"1:0", []int64{0}, nil},
		{"2:", []int64{0, 1, 1}, []int64{0, 2}}, {"2:", []int64{1, 0, 0}, []int64{0, 1}}, {"2:0", []int64{0, 1, 1}, []int64{0, 1, 2, 3}}, {"2:0", []int64{1, 0, 0}, nil}, {"2:0,1", []int64{0, 1, 1}, []int64{1, 3}}, {"2:01", []int64{0, 1, 1}, nil},
		{"3:0,12", []int64{1, 0, 2, 2, 2, 0, 0}, []int64{1, 2, 3, 5, 6, 7}}, {"3:01,02,12", []int64{1, 0, 2, 2, 2, 0, 0}, []int64{6, 7}}, {"3:", []int64{1, 0, 2, 2, 2, 0, 0}, []int64{0, 4}},
	} {
		if got, code := impl.EvadersOf(madeOf(t, c.text), c.tree); code != impl.ErrNone || !slices.Equal(got, c.want) {
			t.Errorf("EvadersOf(%q, %v) = %v, %d; want %v", c.text, c.tree, got, code, c.want)
		}
	}
}

func TestPairingOfTree(t *testing.T) {
	for _, c := range []struct {
		text string
		tree []int64
		want []impl.Pair
	}{
		{"1:", []int64{0}, nil}, {"1:0", []int64{0}, nil}, // what is left of the vertex is empty
		{"2:0,1", []int64{0, 1, 1}, nil}, {"2:01", []int64{0, 1, 1}, []impl.Pair{{1, 3}}}, {"2:01", []int64{1, 0, 0}, []impl.Pair{{2, 3}}},
		{"3:01,02,12", []int64{0, 1, 1, 2, 2, 2, 2}, []impl.Pair{{1, 5}, {2, 6}}}, {"3:01,02,12", []int64{1, 0, 2, 2, 2, 0, 0}, []impl.Pair{{1, 5}, {2, 3}}},
		{"3:012", []int64{1, 0, 2, 2, 2, 0, 0}, []impl.Pair{{1, 5}, {2, 3}, {6, 7}}}, {"3:012", []int64{2, 1, 1, 0, 0, 0, 0}, []impl.Pair{{2, 3}, {4, 5}, {6, 7}}},
		{"3:12", []int64{0, 1, 1, 2, 2, 2, 2}, []impl.Pair{{2, 6}}}, {"3:12", []int64{2, 1, 1, 0, 0, 0, 0}, nil},
		{"3:0,1,2", []int64{1, 0, 2, 2, 2, 0, 0}, nil}, {"3:", []int64{1, 0, 2, 2, 2, 0, 0}, nil},
		// The pairs are sorted by their low faces, while their high faces are not ascending here.
		{"3:012", []int64{0, 2, 1, 1, 1, 2, 2}, []impl.Pair{{1, 5}, {3, 7}, {4, 6}}}, {"3:012", []int64{0, 1, 2, 2, 2, 1, 1}, []impl.Pair{{1, 3}, {2, 6}, {5, 7}}},
		{"4:01,12,23,03", []int64{0, 1, 1, 2, 3, 2, 2, 3, 3, 2, 2, 3, 3, 3, 3}, []impl.Pair{{1, 9}, {2, 6}, {4, 12}}},
	} {
		if got, code := impl.PairingOfTree(madeOf(t, c.text), c.tree); code != impl.ErrNone || !slices.Equal(got, c.want) {
			t.Errorf("PairingOfTree(%q, %v) = %v, %d; want %v", c.text, c.tree, got, code, c.want)
		}
	}
}

func TestBestTree(t *testing.T) {
	for _, c := range []struct {
		text string
		want []int64
	}{
		{"1:", []int64{0}}, {"1:0", []int64{0}},
		{"2:", []int64{0, 1, 1}}, {"2:0", []int64{1, 0, 0}}, {"2:1", []int64{0, 1, 1}}, {"2:0,1", []int64{0, 1, 1}}, {"2:01", []int64{0, 1, 1}},
		{"3:", []int64{0, 1, 1, 2, 2, 2, 2}}, {"3:012", []int64{0, 1, 1, 2, 2, 2, 2}}, {"3:01,02,12", []int64{0, 1, 1, 2, 2, 2, 2}}, {"3:0", []int64{1, 2, 0, 0, 0, 2, 2}}, {"3:01", []int64{0, 2, 2, 1, 1, 1, 1}},
		{"6:012345", orderedTree([]int64{0, 1, 2, 3, 4, 5})}, {"6:", orderedTree([]int64{0, 1, 2, 3, 4, 5})}, {"6:12345", orderedTree([]int64{0, 1, 2, 3, 4, 5})},
	} {
		if got, code := impl.BestTree(madeOf(t, c.text)); code != impl.ErrNone || !slices.Equal(got, c.want) {
			t.Errorf("BestTree(%q) = %v, %d; want %v", c.text, got, code, c.want)
		}
	}
}

// TestGamesAgainstAllTrees takes all complexes with at most four Vertices: the number of questions is the
// least one with which a tree is through, the first best tree is the first one of all.
func TestGamesAgainstAllTrees(t *testing.T) {
	for n := int64(1); n <= 4; n++ {
		trees := allTrees(n)
		for _, k := range allComplexes(n) {
			leastMost, leastEvaders := n, int64(1)<<n+1
			var first []int64
			each := true
			for _, tree := range trees {
				evaders, most := evadersByRule(k, tree)
				leastMost = min(leastMost, most)
				each = each && len(evaders) > 0
				if count := int64(len(evaders)); count < leastEvaders {
					leastEvaders, first = count, tree
				}
			}
			number, code1 := impl.QuestionNumber(k)
			evasive, code2 := impl.IsEvasive(k)
			least, code3 := impl.LeastEvaders(k)
			best, code4 := impl.BestTree(k)
			if code1 != impl.ErrNone || code2 != impl.ErrNone || code3 != impl.ErrNone || code4 != impl.ErrNone {
				t.Fatalf("%v: codes %d, %d, %d, %d", k, code1, code2, code3, code4)
			}
			if number != leastMost || evasive != (leastMost == n) || evasive != each || least != leastEvaders || !slices.Equal(best, first) {
				t.Fatalf("%v: %d questions, %v, %d evaders, %v; want %d, %v, %d, %v", k, number, evasive, least, best, leastMost, each, leastEvaders, first)
			}
		}
	}
}

// TestGamesAgainstPatterns finds the least numbers from the last questions on.
func TestGamesAgainstPatterns(t *testing.T) {
	for _, k := range gameComplexes(t) {
		found := costsByPatterns(k)
		all := powerOf3(k.Vertices) - 1
		number, code1 := impl.QuestionNumber(k)
		evasive, code2 := impl.IsEvasive(k)
		least, code3 := impl.LeastEvaders(k)
		if code1 != impl.ErrNone || code2 != impl.ErrNone || code3 != impl.ErrNone || number != found.questions[all] || evasive != (number == k.Vertices) || least != found.evaders[all] {
			t.Fatalf("%v: %d, %d; %v, %d; %d, %d; want %d and %d", k, number, code1, evasive, code2, least, code3, found.questions[all], found.evaders[all])
		}
		checkBestTree(t, k, found)
	}
}

// checkBestTree checks that the best tree has the least number of evaders, and that with a smaller question
// at one of its places there would be more.
func checkBestTree(t *testing.T, k impl.Complex, found *costs) {
	t.Helper()
	n := k.Vertices
	best, code := impl.BestTree(k)
	if code != impl.ErrNone || !isTreeByRule(n, best) {
		t.Fatalf("BestTree(%v) = %v, %d", k, best, code)
	}
	if evaders, _ := evadersByRule(k, best); int64(len(evaders)) != found.evaders[powerOf3(n)-1] {
		t.Fatalf("BestTree(%v) = %v: evaders %v", k, best, evaders)
	}
	for place := 1; place < 1<<(n-1); place++ { // the last questions are the only ones left
		pattern := patternAt(n, best, place)
		for v := range best[place-1] {
			if digitOf(pattern, v) == 2 && found.evaders[pattern-powerOf3(v)]+found.evaders[pattern-2*powerOf3(v)] <= found.evaders[pattern] {
				t.Fatalf("BestTree(%v) = %v: %d is as good at the place %d", k, best, v, place)
			}
		}
	}
}

// treeSamples calls a function for all trees of all complexes with at most three Vertices, every fifteenth
// one of those with four, and some of larger ones, best trees among them.
func treeSamples(t *testing.T, check func(k impl.Complex, tree []int64)) {
	t.Helper()
	for n := int64(1); n <= 4; n++ {
		trees := allTrees(n)
		for i, k := range allComplexes(n) {
			for j, tree := range trees {
				if n < 4 || (i+j)%15 == 0 {
					check(k, tree)
				}
			}
		}
	}
	for _, k := range append(largeGameComplexes(t), someOfFive(100)...) {
		best, code := impl.BestTree(k)
		if code != impl.ErrNone {
			t.Fatalf("BestTree(%v): code %d", k, code)
		}
		for _, tree := range append(scatteredTrees(k.Vertices, 12), best) {
			check(k, tree)
		}
	}
}

// TestTreesByRule asks for each hidden set.
func TestTreesByRule(t *testing.T) {
	treeSamples(t, func(k impl.Complex, tree []int64) {
		if yes, code := impl.IsTree(k.Vertices, tree); code != impl.ErrNone || !yes {
			t.Fatalf("IsTree(%d, %v) = %v, %d", k.Vertices, tree, yes, code)
		}
		for hidden := range int64(1) << k.Vertices {
			if got, code := impl.QuestionsFor(k, tree, hidden); code != impl.ErrNone || !slices.Equal(got, neededByRule(k, tree, hidden)) {
				t.Fatalf("QuestionsFor(%v, %v, %d) = %v, %d; want %v", k, tree, hidden, got, code, neededByRule(k, tree, hidden))
			}
		}
		want, _ := evadersByRule(k, tree)
		if got, code := impl.EvadersOf(k, tree); code != impl.ErrNone || !slices.Equal(got, want) {
			t.Fatalf("EvadersOf(%v, %v) = %v, %d; want %v", k, tree, got, code, want)
		}
		if got, code := impl.PairingOfTree(k, tree); code != impl.ErrNone || !slices.Equal(got, pairingOfTreeByRule(k, tree)) {
			t.Fatalf("PairingOfTree(%v, %v) = %v, %d; want %v", k, tree, got, code, pairingOfTreeByRule(k, tree))
		}
	})
}

// TestPairingsOfTreesAreAcyclic is the second half of promise 10. It asks layer 2 and the definition.
func TestPairingsOfTreesAreAcyclic(t *testing.T) {
	treeSamples(t, func(k impl.Complex, tree []int64) {
		list, code := impl.PairingOfTree(k, tree)
		if code != impl.ErrNone || !isPairingOf(k, list) || len(facesOnCyclesOf(k, list)) > 0 {
			t.Fatalf("PairingOfTree(%v, %v) = %v, %d", k, tree, list, code)
		}
		if yes, code := impl.IsAcyclicPairing(k, list); code != impl.ErrNone || !yes {
			t.Fatalf("PairingOfTree(%v, %v) = %v: IsAcyclicPairing %v, %d", k, tree, list, yes, code)
		}
	})
}

// TestEvasiveExactlyIfEachTreeHasEvaders is the first half of promise 10: for all trees of complexes with at
// most four Vertices, and for some of those with five and six; for these the best tree tells the other
// direction.
func TestEvasiveExactlyIfEachTreeHasEvaders(t *testing.T) {
	hasEvaders := func(k impl.Complex, tree []int64) bool {
		evaders, code := impl.EvadersOf(k, tree)
		if code != impl.ErrNone || len(evaders)%2 != 0 { // evaders come in twos
			t.Fatalf("EvadersOf(%v, %v) = %v, %d", k, tree, evaders, code)
		}
		return len(evaders) > 0
	}
	for n := int64(1); n <= 4; n++ {
		trees := allTrees(n)
		for _, k := range allComplexes(n) {
			evasive, code := impl.IsEvasive(k)
			each := !slices.ContainsFunc(trees, func(tree []int64) bool { return !hasEvaders(k, tree) })
			if code != impl.ErrNone || evasive != each {
				t.Fatalf("IsEvasive(%v) = %v, %d; each tree has evaders: %v", k, evasive, code, each)
			}
		}
	}
	for _, k := range append(largeGameComplexes(t), someOfFive(3)...) {
		evasive, code := impl.IsEvasive(k)
		best, code2 := impl.BestTree(k)
		if code != impl.ErrNone || code2 != impl.ErrNone || evasive != hasEvaders(k, best) {
			t.Fatalf("IsEvasive(%v) = %v, %d; best tree %v, %d", k, evasive, code, best, code2)
		}
		for _, tree := range scatteredTrees(k.Vertices, 20) {
			if evasive && !hasEvaders(k, tree) {
				t.Fatalf("%v is evasive, but %v has no evaders", k, tree)
			}
		}
	}
}

// TestEvadersAndCriticalFaces holds evaders against critical faces: two evaders that differ in their last
// question are a face and none, so this face is critical, but for the empty set. If the empty set is no
// evader, the vertex with which it shares its last question is critical, too.
func TestEvadersAndCriticalFaces(t *testing.T) {
	treeSamples(t, func(k impl.Complex, tree []int64) {
		evaders, code := impl.EvadersOf(k, tree)
		list, code2 := impl.PairingOfTree(k, tree)
		critical, code3 := impl.CriticalFaces(k, list)
		if code != impl.ErrNone || code2 != impl.ErrNone || code3 != impl.ErrNone {
			t.Fatalf("%v, %v: codes %d, %d, %d", k, tree, code, code2, code3)
		}
		want := len(evaders)/2 + 1
		if slices.Contains(evaders, 0) {
			want -= 2
		}
		if len(critical) != want {
			t.Fatalf("%v, %v: evaders %v, critical faces %v", k, tree, evaders, critical)
		}
	})
}

// TestBestTreesHaveTheLeastNumberOfEvaders is the chapter's last guarantee.
func TestBestTreesHaveTheLeastNumberOfEvaders(t *testing.T) {
	for _, k := range gameComplexes(t) {
		least, code := impl.LeastEvaders(k)
		best, code2 := impl.BestTree(k)
		evaders, code3 := impl.EvadersOf(k, best)
		if code != impl.ErrNone || code2 != impl.ErrNone || code3 != impl.ErrNone || int64(len(evaders)) != least {
			t.Fatalf("%v: least %d, %d; best tree %v, %d; evaders %v, %d", k, least, code, best, code2, evaders, code3)
		}
		for _, tree := range scatteredTrees(k.Vertices, 6) {
			if evaders, code := impl.EvadersOf(k, tree); code != impl.ErrNone || int64(len(evaders)) < least {
				t.Fatalf("%v: least %d, but %v has %v, %d", k, least, tree, evaders, code)
			}
		}
	}
}
