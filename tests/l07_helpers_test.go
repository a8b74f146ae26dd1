package tests

import (
	"slices"
	"testing"

	"loop.example/g01348/impl"
)

// The helpers of this file follow the definitions of chapter 7 word by word; they use no function
// of layer 7.

// allSet returns the set of all vertices of k.
func allSet(k impl.Complex) int64 { return 1<<k.Vertices - 1 }

// facetsByRule returns the facets of k, ascending.
func facetsByRule(k impl.Complex) []int64 {
	return chosen(k.Vertices, func(f int64) bool { return hasFace(k, f) && len(facesAround(k, f)) == 0 })
}

// dualByRule returns the dual of k.
func dualByRule(k impl.Complex) impl.Complex {
	all := allSet(k)
	return complexOn(k.Vertices, chosen(k.Vertices, func(set int64) bool { return set != all && !hasFace(k, all-set) })...)
}

// isMissingByRule reports whether a set is a missing face of k.
func isMissingByRule(k impl.Complex, set int64) bool {
	for side := int64(1); side < set; side++ {
		if isSideOf(side, set) && !hasFace(k, side) {
			return false
		}
	}
	return set > 0 && !hasFace(k, set)
}

// linkByRule returns the faces of the link of f.
func linkByRule(k impl.Complex, f int64) []int64 {
	return chosen(k.Vertices, func(s int64) bool { return s&f == 0 && hasFace(k, s|f) })
}

// flippersOf returns all sets by which a face can be flipped.
func flippersOf(k impl.Complex, f int64) []int64 {
	return chosen(k.Vertices, func(g int64) bool {
		parts := chosen(k.Vertices, func(s int64) bool { return s != g && isInside(s, g) })
		return g&f == 0 && isMissingByRule(k, g) && slices.Equal(linkByRule(k, f), parts)
	})
}

// flipByRule returns k with a face f flipped by a missing face g.
func flipByRule(k impl.Complex, f, g int64) impl.Complex {
	return complexOn(k.Vertices, chosen(k.Vertices, func(s int64) bool {
		put := isInside(g, s) && isInside(s, f|g) && !isInside(f, s)
		return put || hasFace(k, s) && !isInside(f, s)
	})...)
}

// isPureByRule reports whether k is pure.
func isPureByRule(k impl.Complex) bool {
	for _, f := range facetsByRule(k) {
		if sizeOf(f) != topDimension(k)+1 {
			return false
		}
	}
	return true
}

// countAround returns in how many facets a set lies.
func countAround(facets []int64, set int64) int {
	return len(slices.DeleteFunc(slices.Clone(facets), func(f int64) bool { return !isInside(set, f) }))
}

// isPseudomanifoldByRule reports whether k is a pseudomanifold.
func isPseudomanifoldByRule(k impl.Complex) bool {
	facets := facetsByRule(k)
	if len(facets) == 0 || !isPureByRule(k) {
		return false
	}
	if topDimension(k) == 0 {
		return len(facets) == 2
	}
	for _, side := range facesAt(k, topDimension(k)-1) {
		if countAround(facets, side) != 2 {
			return false
		}
	}
	return true
}

// boundaryComplexByRule returns the boundary complex of a pure complex.
func boundaryComplexByRule(k impl.Complex) impl.Complex {
	facets := facetsByRule(k)
	return complexOn(k.Vertices, chosen(k.Vertices, func(set int64) bool {
		return slices.ContainsFunc(facesAt(k, topDimension(k)-1), func(side int64) bool { return isInside(set, side) && countAround(facets, side) == 1 })
	})...)
}

// timesXLessOne multiplies a polynomial, given by its coefficients from that of 1 on, by x - 1.
func timesXLessOne(p []int64) []int64 {
	product := make([]int64, len(p)+1)
	for power, c := range p {
		product[power+1] += c
		product[power] -= c
	}
	return product
}

// numbersHByRule returns h(0) to h(d + 1), by adding up polynomials.
func numbersHByRule(k impl.Complex) []int64 {
	d := topDimension(k)
	sum := make([]int64, d+2)
	for i := range d + 2 {
		part := []int64{1}
		if i > 0 {
			part[0] = int64(len(facesAt(k, i-1)))
		}
		for range d + 1 - i {
			part = timesXLessOne(part)
		}
		for power, c := range part {
			sum[power] += c
		}
	}
	slices.Reverse(sum) // the number h(i) stands at the power d + 1 - i
	return sum
}

// isInCommon reports whether a set lies in a facet and in one of those ahead of it.
func isInCommon(ahead []int64, facet, set int64) bool {
	return isInside(set, facet) && slices.ContainsFunc(ahead, func(other int64) bool { return isInside(set, other) })
}

// mayFollow reports whether a facet may come behind others in a shelling.
func mayFollow(ahead []int64, facet int64) bool {
	for set := int64(0); set <= facet; set++ {
		if isInCommon(ahead, facet, set) && !liesInSideInCommon(ahead, facet, set) {
			return false
		}
	}
	return true
}

// liesInSideInCommon reports whether a set lies in a set with just one vertex less than a facet that
// this has in common with one ahead.
func liesInSideInCommon(ahead []int64, facet, set int64) bool {
	for side := int64(0); side < facet; side++ {
		if isSideOf(side, facet) && isInside(set, side) && isInCommon(ahead, facet, side) {
			return true
		}
	}
	return false
}

// isShellingByRule reports whether a list is a shelling of a pure complex.
func isShellingByRule(k impl.Complex, list []int64) bool {
	if !slices.Equal(slices.Sorted(slices.Values(list)), facetsByRule(k)) {
		return false
	}
	for i, facet := range list {
		if !mayFollow(list[:i], facet) {
			return false
		}
	}
	return true
}

// restrictionsByRule returns the restrictions of a shelling.
func restrictionsByRule(list []int64) []int64 {
	var restrictions []int64
	for i, facet := range list {
		restriction := int64(0)
		for v := range int64(impl.MaxVertices) {
			if facet>>v&1 == 1 && isInCommon(list[:i], facet, facet-1<<v) {
				restriction += 1 << v
			}
		}
		restrictions = append(restrictions, restriction)
	}
	return restrictions
}

// firstShellingByRule returns the first shelling of facets of the same dimension, or false. It finds
// out for each set of them, the larger ones first, which facet comes next.
func firstShellingByRule(facets []int64) ([]int64, bool) {
	whole := 1<<len(facets) - 1
	next := make([]int, whole+1)
	for set := whole - 1; set >= 0; set-- {
		var ahead []int64
		for i, facet := range facets {
			if set>>i&1 == 1 {
				ahead = append(ahead, facet)
			}
		}
		next[set] = slices.IndexFunc(facets, func(facet int64) bool {
			longer := set | 1<<slices.Index(facets, facet)
			return longer != set && (longer == whole || next[longer] >= 0) && mayFollow(ahead, facet)
		})
	}
	var list []int64
	for set := 0; set != whole; set |= 1 << next[set] {
		if next[set] < 0 {
			return nil, false
		}
		list = append(list, facets[next[set]])
	}
	return list, true
}

// evenComplexes returns complexes with n Vertices made by sets of one size, as many as told, that a
// fixed rule scatters.
func evenComplexes(t *testing.T, n, size int64, sets, count int) []impl.Complex {
	t.Helper()
	all := chosen(n, func(set int64) bool { return sizeOf(set) == size })
	state := uint32(n*100 + size*10 + int64(sets))
	var found []impl.Complex
	for range count {
		var some []int64
		for range sets {
			some = append(some, all[scattered(&state, len(all))])
		}
		k, code := impl.ComplexOf(n, some)
		if code != impl.ErrNone {
			t.Fatalf("ComplexOf(%d, %v): code %d", n, some, code)
		}
		found = append(found, k)
	}
	return found
}

// grownComplexes returns complexes with six Vertices that facets of one size make, each one put in
// where it may follow in a shelling.
func grownComplexes(t *testing.T) []impl.Complex {
	t.Helper()
	var found []impl.Complex
	state := uint32(7)
	for size := int64(2); size <= 5; size++ {
		all := chosen(6, func(set int64) bool { return sizeOf(set) == size })
		for round := range 12 {
			var facets []int64
			for range 4 + 6*round {
				f := all[scattered(&state, len(all))]
				if !slices.Contains(facets, f) && mayFollow(facets, f) && len(facets) < 12+round/6 {
					facets = append(facets, f)
				}
			}
			k, code := impl.ComplexOf(6, facets)
			if code != impl.ErrNone {
				t.Fatalf("ComplexOf(6, %v): code %d", facets, code)
			}
			found = append(found, k)
		}
	}
	return found
}

// pureComplexes returns all pure complexes with at most five Vertices, and some with six.
func pureComplexes(t *testing.T) []impl.Complex {
	t.Helper()
	found := append(collapseComplexes(t), grownComplexes(t)...)
	for size := int64(1); size <= 6; size++ {
		for sets := 1; sets <= 16; sets++ {
			found = append(found, evenComplexes(t, 6, size, sets, 3)...)
		}
	}
	return slices.DeleteFunc(found, func(k impl.Complex) bool { return !isPureByRule(k) })
}

// somewhatShelled returns the facets in an order in which each one may follow as long as there is such
// a one; a fixed rule scatters the choices.
func somewhatShelled(facets []int64, state *uint32) []int64 {
	left := slices.Clone(facets)
	var list []int64
	for len(left) > 0 {
		from := scattered(state, len(left))
		left = append(left[from:len(left):len(left)], left[:from]...)
		next := max(0, slices.IndexFunc(left, func(f int64) bool { return mayFollow(list, f) }))
		list = append(list, left[next])
		left = slices.Delete(left, next, next+1)
	}
	return list
}

// orderSamples calls a function for pure complexes, with orders of their facets: all if there are at
// most four, and otherwise some, many of which are shellings.
func orderSamples(t *testing.T, check func(k impl.Complex, order []int64)) {
	t.Helper()
	state := uint32(5)
	for _, k := range pureComplexes(t) {
		facets := facetsByRule(k)
		if len(facets) <= 4 {
			for _, p := range permutations(int64(len(facets))) {
				var order []int64
				for _, place := range p {
					order = append(order, facets[place])
				}
				check(k, order)
			}
			continue
		}
		check(k, facets)
		for range 3 {
			order := somewhatShelled(facets, &state)
			check(k, order)
			i, j := scattered(&state, len(order)), scattered(&state, len(order))
			swapped := slices.Clone(order)
			swapped[i], swapped[j] = order[j], order[i]
			check(k, swapped)
		}
	}
}

// flipSamples calls a function for all faces of some complexes.
func flipSamples(t *testing.T, check func(k impl.Complex, f int64)) {
	t.Helper()
	for _, k := range flipComplexes(t) {
		for _, f := range k.Faces {
			check(k, f)
		}
	}
}

// flipComplexes returns all complexes with at most four Vertices, every fifth one with five, some
// with six, and chosen ones with vertices that are not there.
func flipComplexes(t *testing.T) []impl.Complex {
	t.Helper()
	found := homologyComplexes(t)
	for i, k := range allComplexes(5) {
		if i%5 == 0 {
			found = append(found, k)
		}
	}
	for _, text := range []string{
		"5:01,02,12", "6:01,02,12", "6:012", "6:0", "6:0,3", "6:012,013,023,123", "5:012,013,023,123", "6:0123,0124,0134,0234,1234", "6:013,014,023,024,123,124",
		"6:0134,0135,0145,0234,0235,0245,1234,1235,1245", "6:01,12,23,03", "6:012,34", "5:0,1,2",
		"5:0123,0124,0134,0234", "6:0123,0124,0134,0234", "6:0123,0124,0134,0234,45", "6:01234,01235,01245,01345", "6:01234,01235,01245,01345,02345",
	} {
		found = append(found, madeOf(t, text))
	}
	return append(found, someComplexes(t, 6, 120)...)
}
