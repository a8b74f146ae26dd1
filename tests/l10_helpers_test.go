package tests

import (
	"iter"
	"slices"
	"testing"

	"loop.example/g01348/impl"
)

// The helpers of this file follow the definitions of chapter 10 word by word; they use no function
// of layer 10.

// countsByRule reports whether a hidden set counts.
func countsByRule(k impl.Complex, hidden int64) bool { return hidden == 0 || hasFace(k, hidden) }

// isToldByRule reports whether all of some hidden sets count, or none of them does.
func isToldByRule(k impl.Complex, sets []int64) bool {
	for _, hidden := range sets {
		if countsByRule(k, hidden) != countsByRule(k, sets[0]) {
			return false
		}
	}
	return true
}

// wayByRule returns the questions asked for a hidden set, from the place 1 on, as far as the list has
// their places.
func wayByRule(tree []int64, hidden int64) []int64 {
	var way []int64
	for place := 1; place <= len(tree); {
		question := tree[place-1]
		way = append(way, question)
		if hidden>>question&1 == 1 {
			place = 2*place + 1
		} else {
			place = 2 * place
		}
	}
	return way
}

// isTreeByRule reports whether a list is a tree of n: whether each way asks for all numbers.
func isTreeByRule(n int64, tree []int64) bool {
	if int64(len(tree)) != 1<<n-1 {
		return false
	}
	for _, question := range tree {
		if question < 0 || question > n-1 {
			return false
		}
	}
	for hidden := range int64(1) << n {
		if way := wayByRule(tree, hidden); int64(len(way)) != n || len(slices.Compact(slices.Sorted(slices.Values(way)))) != len(way) {
			return false
		}
	}
	return true
}

// alikeByRule returns the hidden sets of n numbers that give the same answers to some questions as one
// of them.
func alikeByRule(n int64, questions []int64, hidden int64) []int64 {
	var alike []int64
	for other := range int64(1) << n {
		if !slices.ContainsFunc(questions, func(v int64) bool { return hidden>>v&1 != other>>v&1 }) {
			alike = append(alike, other)
		}
	}
	return alike
}

// neededByRule returns the questions of a tree needed for a hidden set.
func neededByRule(k impl.Complex, tree []int64, hidden int64) []int64 {
	way := wayByRule(tree, hidden)
	for q := range way {
		if isToldByRule(k, alikeByRule(k.Vertices, way[:q], hidden)) {
			return way[:q]
		}
	}
	return way
}

// evadersByRule returns the evaders of a tree, and the greatest number of questions that it needs.
func evadersByRule(k impl.Complex, tree []int64) (evaders []int64, most int64) {
	for hidden := range int64(1) << k.Vertices {
		needed := int64(len(neededByRule(k, tree, hidden)))
		if needed == k.Vertices {
			evaders = append(evaders, hidden)
		}
		most = max(most, needed)
	}
	return evaders, most
}

// pairingOfTreeByRule returns the pairing of a tree.
func pairingOfTreeByRule(k impl.Complex, tree []int64) []impl.Pair {
	var pairing []impl.Pair
	for _, b := range k.Faces {
		way := wayByRule(tree, b)
		v := way[len(way)-1]
		if b>>v&1 == 1 && hasFace(k, b-1<<v) {
			pairing = insertPair(pairing, impl.Pair{b - 1<<v, b})
		}
	}
	return pairing
}

// treesOn ranges over all trees that ask for some numbers, in some order.
func treesOn(numbers []int64) iter.Seq[[]int64] {
	return func(yield func([]int64) bool) {
		if len(numbers) == 0 {
			yield(nil)
			return
		}
		for i, question := range numbers {
			rest := slices.Delete(slices.Clone(numbers), i, i+1)
			for no := range treesOn(rest) {
				for yes := range treesOn(rest) {
					if !yield(treeWith(question, no, yes)) {
						return
					}
				}
			}
		}
	}
}

// treeWith returns the tree that begins with a question and goes on with two trees.
func treeWith(question int64, no, yes []int64) []int64 {
	tree := []int64{question}
	for level := 1; level <= len(no); level = 2*level + 1 {
		// Each level of a tree lies behind the ones above it, which have one place less than it has.
		from := level / 2
		tree = append(append(tree, no[from:level]...), yes[from:level]...)
	}
	return tree
}

// allTrees returns all trees of n, lexicographically.
func allTrees(n int64) [][]int64 {
	return slices.SortedFunc(treesOn(numbersBelow(n)), slices.Compare)
}

// numbersBelow returns the numbers 0 to n - 1.
func numbersBelow(n int64) []int64 {
	var numbers []int64
	for v := range n {
		numbers = append(numbers, v)
	}
	return numbers
}

// scatteredTree returns a tree that asks for some numbers.
func scatteredTree(state *uint32, numbers []int64) []int64 {
	if len(numbers) == 0 {
		return nil
	}
	i := scattered(state, len(numbers))
	rest := slices.Delete(slices.Clone(numbers), i, i+1)
	return treeWith(numbers[i], scatteredTree(state, rest), scatteredTree(state, rest))
}

// scatteredTrees returns some trees of n, and those of the orders 0, 1, .. and .., 1, 0.
func scatteredTrees(n int64, count int) [][]int64 {
	up := numbersBelow(n)
	down := slices.Clone(up)
	slices.Reverse(down)
	trees := [][]int64{orderedTree(up), orderedTree(down)}
	state := uint32(n)
	for range count {
		trees = append(trees, scatteredTree(&state, up))
	}
	return trees
}

// orderedTree returns the tree that asks for numbers in their order.
func orderedTree(order []int64) []int64 {
	if len(order) == 0 {
		return nil
	}
	rest := orderedTree(order[1:])
	return treeWith(order[0], rest, rest)
}

// A pattern stands for the hidden sets that are left by some answers: it has for each number v a digit in
// base 3 (that of 3^v), 0 for the answer no, 1 for yes, and 2 for no answer yet.

// digitOf returns the digit of v of a pattern.
func digitOf(pattern, v int64) int64 { return pattern / powerOf3(v) % 3 }

// powerOf3 returns 3^v.
func powerOf3(v int64) int64 {
	power := int64(1)
	for range v {
		power *= 3
	}
	return power
}

// leftBy returns the hidden sets of n numbers that a pattern stands for.
func leftBy(n, pattern int64) []int64 {
	var sets []int64
	for hidden := range int64(1) << n {
		fits := true
		for v := range n {
			fits = fits && (digitOf(pattern, v) == 2 || digitOf(pattern, v) == hidden>>v&1)
		}
		if fits {
			sets = append(sets, hidden)
		}
	}
	return sets
}

// costs has, for all patterns, the least numbers of questions and of evaders.
type costs struct {
	questions, evaders [729]int64
}

// costsByPatterns finds the costs for k, from patterns with many answers to those with less: these are
// greater numbers.
func costsByPatterns(k impl.Complex) *costs {
	found := &costs{}
	for pattern := range powerOf3(k.Vertices) {
		left := leftBy(k.Vertices, pattern)
		if isToldByRule(k, left) {
			continue
		}
		questions, evaders := k.Vertices, int64(len(left))
		for v := range k.Vertices {
			if digitOf(pattern, v) != 2 {
				continue
			}
			yes := pattern - powerOf3(v)
			no := yes - powerOf3(v)
			questions = min(questions, 1+max(found.questions[no], found.questions[yes]))
			if len(left) > 2 { // behind the last question both are evaders
				evaders = min(evaders, found.evaders[no]+found.evaders[yes])
			}
		}
		found.questions[pattern], found.evaders[pattern] = questions, evaders
	}
	return found
}

// patternAt returns the pattern of the answers ahead of a place of a tree of n.
func patternAt(n int64, tree []int64, place int) int64 {
	pattern := powerOf3(n) - 1
	for ; place > 1; place /= 2 {
		pattern -= int64(2-place%2) * powerOf3(tree[place/2-1])
	}
	return pattern
}

// gameComplexes returns all complexes with at most four Vertices, some with five and six, and chosen ones.
func gameComplexes(t *testing.T) []impl.Complex {
	t.Helper()
	found := append(smallComplexes(4), largeGameComplexes(t)...)
	return append(found, someOfFive(10)...)
}

// largeGameComplexes returns some complexes with five and six Vertices, and chosen ones.
func largeGameComplexes(t *testing.T) []impl.Complex {
	t.Helper()
	found := append(someComplexes(t, 5, 30), someComplexes(t, 6, 48)...)
	for n := int64(5); n <= 6; n++ {
		found = append(found, complexOn(n), fullComplex(n), complexOn(n, 1), complexOn(n, 1<<(n-1)))
		for d := range n - 1 {
			found = append(found, skeleton(n, d))
		}
	}
	for _, name := range []string{"bipyramid", "octahedron", "moebius", "projective", "wedge", "tree"} {
		found = append(found, named(t, name))
	}
	for _, text := range []string{
		"6:0123", "6:2345", "6:01,23", "6:012,345", "6:0123,0145,2345", "6:01,12,23,34,45,05", "6:01234,5", "6:0,1,2,3,4,5",
		"6:012,023,034,045,015,124,235,134,245", "6:0123,134,45", "5:0123,0124,34", "5:01,12,23,34,04", "5:012,34", "5:04,14,24,34",
	} {
		found = append(found, madeOf(t, text))
	}
	return found
}
