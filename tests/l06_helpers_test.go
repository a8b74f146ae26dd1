package tests

import (
	"slices"
	"testing"

	"loop.example/g01348/impl"
)

// The helpers of this file follow the definitions of chapter 6 word by word; they use no function
// of layer 6.

// isCriticalByRule reports whether a number is a critical face.
func isCriticalByRule(k impl.Complex, list []impl.Pair, face int64) bool {
	return hasFace(k, face) && len(groupOf(list, face)) == 1
}

// criticalOf returns the critical faces of the dimension d, ascending.
func criticalOf(k impl.Complex, list []impl.Pair, d int64) []int64 {
	return chosen(k.Vertices, func(f int64) bool { return sizeOf(f) == d+1 && isCriticalByRule(k, list, f) })
}

// allWaysBetween returns the ways between b and a, by walking each gradient way from each face with
// one vertex less in b.
func allWaysBetween(k impl.Complex, list []impl.Pair, b, a int64) [][]int64 {
	var ways [][]int64
	var walk func(way []int64)
	walk = func(way []int64) {
		last := way[len(way)-1]
		if last == a {
			ways = append(ways, slices.Clone(way))
		}
		for _, next := range stepsOf(k, list, last) {
			walk(append(way, next))
		}
	}
	for _, side := range k.Faces {
		if isSideOf(side, b) {
			walk([]int64{side})
		}
	}
	return ways
}

// morseByRule returns the rows of the Morse boundary of p.
func morseByRule(k impl.Complex, list []impl.Pair, p int64) [][]int64 {
	var rows [][]int64
	for _, b := range criticalOf(k, list, p) {
		var row []int64
		for _, a := range criticalOf(k, list, p-1) {
			row = append(row, int64(len(allWaysBetween(k, list, b, a)))%2)
		}
		rows = append(rows, row)
	}
	return rows
}

// rankByRule returns the rank of rows modulo 2.
func rankByRule(rows [][]int64) int64 {
	var wide []row3
	for _, row := range rows {
		var own row3
		for column, number := range row {
			own[column] = int8(number)
		}
		wide = append(wide, own)
	}
	return rankBySums(wide, 2)
}

// holesByRule returns the numbers of holes.
func holesByRule(k impl.Complex, list []impl.Pair) []int64 {
	var ranks, holes []int64
	for p := range topDimension(k) + 2 {
		ranks = append(ranks, 0)
		if p > 0 && p <= topDimension(k) {
			ranks[p] = rankByRule(morseByRule(k, list, p))
		}
	}
	for i := range topDimension(k) + 1 {
		holes = append(holes, int64(len(criticalOf(k, list, i)))-ranks[i]-ranks[i+1])
	}
	return holes
}

// cancelledByRule returns the pairing with b and a cancelled, for the only way between them.
func cancelledByRule(list []impl.Pair, b int64, way []int64) []impl.Pair {
	left := slices.Clone(list)
	put := []impl.Pair{{way[0], b}}
	for i := range len(way) - 1 {
		high := groupOf(list, way[i])[1]
		left = slices.DeleteFunc(left, func(p impl.Pair) bool { return p == impl.Pair{way[i], high} })
		put = append(put, impl.Pair{way[i+1], high})
	}
	for _, p := range put {
		left = insertPair(left, p)
	}
	return left
}

// isChainByRule reports whether a list is a chain of k.
func isChainByRule(k impl.Complex, list []int64) bool {
	for i, face := range list {
		if !hasFace(k, face) || sizeOf(face) != sizeOf(list[0]) || i > 0 && list[i-1] >= face {
			return false
		}
	}
	return true
}

// pushWord returns the push of a face as a chain.
func pushWord(list []impl.Pair, face int64) word {
	for _, p := range list {
		if p[0] == face {
			return 1 << p[1]
		}
	}
	return 0
}

// flowByRule returns the flow of a chain, adding up face by face.
func flowByRule(k impl.Complex, list []impl.Pair, chain []int64) []int64 {
	sum := wordOf(chain)
	for _, face := range chain {
		sum ^= boundaryWord(k, chainOf(pushWord(list, face)))
		for _, side := range chainOf(boundaryWord(k, []int64{face})) {
			sum ^= pushWord(list, side)
		}
	}
	return chainOf(sum)
}

// flowsByRule returns a chain, its flow, the flow of that, and so on up to its end.
func flowsByRule(t *testing.T, k impl.Complex, list []impl.Pair, chain []int64) [][]int64 {
	t.Helper()
	flows := [][]int64{chain}
	for range 64 {
		last := flows[len(flows)-1]
		next := flowByRule(k, list, last)
		if slices.Equal(next, last) {
			return flows
		}
		flows = append(flows, next)
	}
	t.Fatalf("the chain %v of %v flows on without an end, by %v", chain, k, list)
	return nil
}

// endByRule returns the end of a chain.
func endByRule(t *testing.T, k impl.Complex, list []impl.Pair, chain []int64) []int64 {
	t.Helper()
	flows := flowsByRule(t, k, list, chain)
	return flows[len(flows)-1]
}

// greedyByRule puts in the pairs of k that leave the pairing acyclic, from the one with a number on,
// and those ahead of it behind the last one.
func greedyByRule(k impl.Complex, from int) []impl.Pair {
	var list []impl.Pair
	pairs := allPairs(k)
	for i := range pairs {
		p := pairs[(i+from)%len(pairs)]
		if longer := insertPair(list, p); !meets(list, p) && len(facesOnCyclesOf(k, longer)) == 0 {
			list = longer
		}
	}
	return list
}

// without returns a list without one of its pairs.
func without(list []impl.Pair, i int) []impl.Pair { return slices.Delete(slices.Clone(list), i, i+1) }

// windingSamples calls a function for acyclic pairings of larger complexes with long ways: pairings
// that are full, and those that lack one or two of their pairs.
func windingSamples(t *testing.T, check func(k impl.Complex, list []impl.Pair)) {
	t.Helper()
	for _, k := range windingComplexes(t) {
		for from := range 4 {
			list := greedyByRule(k, from*7)
			check(k, list)
			for i := range list {
				if i%3 == from%3 {
					check(k, without(list, i))
				}
				if i%5 == from && i > 0 {
					check(k, without(without(list, i), i/2))
				}
			}
		}
	}
}

// windingComplexes returns complexes of all dimensions with many faces.
func windingComplexes(t *testing.T) []impl.Complex {
	t.Helper()
	var found []impl.Complex
	for _, name := range []string{"sphere", "bipyramid", "octahedron", "moebius", "projective", "wedge"} {
		found = append(found, named(t, name))
	}
	for _, text := range []string{"6:01,12,23,34,45,05", "6:012,123,234,345,045,015", "5:0123,0124,0134,0234,1234", "6:0123,1234,2345,0345,0145,0125"} {
		found = append(found, madeOf(t, text))
	}
	return append(found, skeleton(6, 1), skeleton(6, 2), skeleton(6, 3), fullComplex(4), fullComplex(5), fullComplex(6))
}

// chainSamples calls a function for some acyclic pairings, and some chains of each dimension of their
// complexes.
func chainSamples(t *testing.T, check func(k impl.Complex, list []impl.Pair, chain []int64)) {
	t.Helper()
	each := func(most int) func(k impl.Complex, list []impl.Pair) {
		return func(k impl.Complex, list []impl.Pair) {
			for d := range topDimension(k) + 1 {
				for _, chain := range someChains(k, d, most) {
					check(k, list, chain)
				}
			}
			check(k, list, nil)
		}
	}
	acyclicSamples(t, each(8))
	windingSamples(t, each(24))
}

// boundaryByRule returns the boundary of a chain.
func boundaryByRule(k impl.Complex, chain []int64) []int64 { return chainOf(boundaryWord(k, chain)) }
