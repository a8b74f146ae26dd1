package tests

import (
	"slices"
	"testing"

	"loop.example/g01348/impl"
)

// The helpers of this file follow the definitions of chapter 2 word by word; they use no function
// of layer 2.

// isPairOf reports whether p is a pair of k.
func isPairOf(k impl.Complex, p impl.Pair) bool {
	return hasFace(k, p[0]) && hasFace(k, p[1]) && isInside(p[0], p[1]) && sizeOf(p[1]) == sizeOf(p[0])+1
}

// allPairs returns all pairs of k, ascending.
func allPairs(k impl.Complex) []impl.Pair {
	var pairs []impl.Pair
	for _, low := range k.Faces {
		for _, high := range k.Faces {
			if p := (impl.Pair{low, high}); isPairOf(k, p) {
				pairs = append(pairs, p)
			}
		}
	}
	return pairs
}

// meets reports whether a pair has a face that one of a list has.
func meets(list []impl.Pair, p impl.Pair) bool {
	return slices.ContainsFunc(list, func(q impl.Pair) bool {
		return p[0] == q[0] || p[0] == q[1] || p[1] == q[0] || p[1] == q[1]
	})
}

// isBefore reports whether a pair comes ahead of another one.
func isBefore(p, q impl.Pair) bool { return p[0] < q[0] || p[0] == q[0] && p[1] < q[1] }

// isPairingOf reports whether a list is a pairing of k.
func isPairingOf(k impl.Complex, list []impl.Pair) bool {
	for i, p := range list {
		if !isPairOf(k, p) || meets(list[:i], p) || i > 0 && !isBefore(list[i-1], p) {
			return false
		}
	}
	return true
}

// allPairings returns all pairings of k.
func allPairings(k impl.Complex) [][]impl.Pair {
	pairs := allPairs(k)
	var found [][]impl.Pair
	var extend func(list []impl.Pair, next int)
	extend = func(list []impl.Pair, next int) {
		if next == len(pairs) {
			found = append(found, slices.Clone(list))
			return
		}
		extend(list, next+1)
		if !meets(list, pairs[next]) {
			extend(append(list, pairs[next]), next+1)
		}
	}
	extend(nil, 0)
	return found
}

// scattered steps on by a fixed rule, and returns a number below n.
func scattered(state *uint32, n int) int {
	*state = *state*1664525 + 1013904223
	return int(*state>>8) % n
}

// somePairings returns pairings of k that a fixed rule scatters, from pairings with few pairs to
// those that take no more, and as often those that are made to be acyclic.
func somePairings(k impl.Complex, count int) [][]impl.Pair {
	found := [][]impl.Pair{nil}
	state := uint32(len(k.Faces))
	for i := range count {
		pairs := allPairs(k)
		for j := range pairs {
			other := j + scattered(&state, len(pairs)-j)
			pairs[j], pairs[other] = pairs[other], pairs[j]
		}
		var list []impl.Pair
		for _, p := range pairs {
			if meets(list, p) || scattered(&state, 8) < i%4 {
				continue
			}
			longer := insertPair(list, p)
			if i%2 == 0 || len(facesOnCyclesOf(k, longer)) == 0 {
				list = longer
			}
		}
		found = append(found, list)
	}
	return found
}

// insertPair returns a list with a pair more, ahead of those that it comes before.
func insertPair(list []impl.Pair, p impl.Pair) []impl.Pair {
	place := 0
	for place < len(list) && isBefore(list[place], p) {
		place++
	}
	return slices.Insert(slices.Clone(list), place, p)
}

// stepsOf returns the faces to which a gradient step leads from a, ascending.
func stepsOf(k impl.Complex, list []impl.Pair, a int64) []int64 {
	var steps []int64
	for _, p := range list {
		for _, face := range k.Faces {
			if p[0] == a && face != a && isInside(face, p[1]) && sizeOf(face) == sizeOf(p[1])-1 {
				steps = append(steps, face)
			}
		}
	}
	return steps
}

// reachedByWays returns for each face the faces at which gradient ways with at least one step from
// it end: the closure of the steps, face by face in the middle.
func reachedByWays(k impl.Complex, list []impl.Pair) [64][64]bool {
	var reach [64][64]bool
	for _, a := range k.Faces {
		for _, b := range stepsOf(k, list, a) {
			reach[a][b] = true
		}
	}
	for _, middle := range k.Faces {
		for _, a := range k.Faces {
			for _, b := range k.Faces {
				reach[a][b] = reach[a][b] || reach[a][middle] && reach[middle][b]
			}
		}
	}
	return reach
}

// facesOnCyclesOf returns the faces to which a gradient way comes back.
func facesOnCyclesOf(k impl.Complex, list []impl.Pair) []int64 {
	if len(list) < 3 { // a cycle has at least three faces
		return nil
	}
	reach := reachedByWays(k, list)
	return chosen(k.Vertices, func(face int64) bool { return reach[face][face] })
}

// waysByWalking counts the gradient ways of an acyclic pairing by walking each one of them.
func waysByWalking(k impl.Complex, list []impl.Pair, a, b int64) int64 {
	count := int64(0)
	if a == b {
		count++
	}
	for _, next := range stepsOf(k, list, a) {
		count += waysByWalking(k, list, next, b)
	}
	return count
}

// groupOf returns the faces of the group that has a face, the low one of a pair first.
func groupOf(list []impl.Pair, face int64) []int64 {
	for _, p := range list {
		if p[0] == face || p[1] == face {
			return []int64{p[0], p[1]}
		}
	}
	return []int64{face}
}

// canComeNext reports whether all faces with one vertex less in those of a group are in it or ahead.
func canComeNext(k impl.Complex, group, ahead []int64) bool {
	for _, face := range group {
		for _, side := range k.Faces {
			if isInside(side, face) && sizeOf(side) == sizeOf(face)-1 && !slices.Contains(group, side) && !slices.Contains(ahead, side) {
				return false
			}
		}
	}
	return true
}

// orderByRule returns the order of an acyclic pairing: in each turn the first low or critical face
// whose group can come next.
func orderByRule(t *testing.T, k impl.Complex, list []impl.Pair) []int64 {
	t.Helper()
	var order []int64
	for len(order) < len(k.Faces) {
		before := len(order)
		for _, face := range k.Faces {
			group := groupOf(list, face)
			if face == group[0] && !slices.Contains(order, face) && canComeNext(k, group, order) {
				order = append(order, group...)
				break
			}
		}
		if len(order) == before {
			t.Fatalf("the pairing %v of %v has no order", list, k)
		}
	}
	return order
}

// samplePairings calls a function for all pairings of the complexes with at most three Vertices and
// of some with four, and for some pairings of those with four, five and six.
func samplePairings(t *testing.T, check func(k impl.Complex, list []impl.Pair)) {
	t.Helper()
	for _, k := range append(smallComplexes(3), named(t, "square"), parsed(t, "4:012,23"), parsed(t, "4:012,123"), parsed(t, "4:01,02,12,03,13,23")) {
		for _, list := range allPairings(k) {
			check(k, list)
		}
	}
	larger := allComplexes(4)
	for _, name := range []string{"bipyramid", "octahedron", "moebius", "projective", "wedge", "tree"} {
		larger = append(larger, named(t, name), named(t, name))
	}
	larger = append(append(larger, someComplexes(t, 5, 24)...), someComplexes(t, 6, 24)...)
	for _, k := range append(larger, fullComplex(5), fullComplex(6), complexOn(5), complexOn(6)) {
		for _, list := range somePairings(k, 8) {
			check(k, list)
		}
	}
}

// acyclicSamples calls a function for those of samplePairings that are acyclic.
func acyclicSamples(t *testing.T, check func(k impl.Complex, list []impl.Pair)) {
	t.Helper()
	samplePairings(t, func(k impl.Complex, list []impl.Pair) {
		if len(facesOnCyclesOf(k, list)) == 0 {
			check(k, list)
		}
	})
}

// circlePairings returns the circle, the pairing that goes around it, and one with one critical
// vertex and one critical edge.
func circlePairings() (k impl.Complex, around, some []impl.Pair) {
	return complexOn(3, 1, 2, 3, 4, 5, 6), []impl.Pair{{1, 3}, {2, 6}, {4, 5}}, []impl.Pair{{1, 3}, {2, 6}}
}
