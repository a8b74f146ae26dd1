package tests

import (
	"slices"
	"testing"

	"loop.example/g01348/impl"
)

// The helpers of this file follow the definitions of chapter 5 word by word; they use no function
// of layer 5.

// facesAround returns the other faces that a face is in.
func facesAround(k impl.Complex, f int64) []int64 {
	return chosen(k.Vertices, func(g int64) bool { return hasFace(k, g) && g != f && isInside(f, g) })
}

// freeByRule returns the free pairs of k in the order of their free faces.
func freeByRule(k impl.Complex) []impl.Pair {
	var pairs []impl.Pair
	for _, f := range k.Faces {
		if around := facesAround(k, f); len(around) == 1 {
			pairs = append(pairs, impl.Pair{f, around[0]})
		}
	}
	return pairs
}

// leaving returns k without some of its faces.
func leaving(k impl.Complex, taken ...int64) impl.Complex {
	return complexOn(k.Vertices, chosen(k.Vertices, func(f int64) bool { return hasFace(k, f) && !slices.Contains(taken, f) })...)
}

// collapseByRule collapses the first free pair neither face of which is in l, as long as there is
// one.
func collapseByRule(k, l impl.Complex) (impl.Complex, []impl.Pair) {
	var pairs []impl.Pair
	for {
		free := freeByRule(k)
		next := slices.IndexFunc(free, func(p impl.Pair) bool { return !hasFace(l, p[0]) && !hasFace(l, p[1]) })
		if next < 0 {
			return k, pairs
		}
		k = leaving(k, free[next][0], free[next][1])
		pairs = append(pairs, free[next])
	}
}

// reductionByRule returns the pairs and the critical faces of the reduction.
func reductionByRule(k impl.Complex) (pairs []impl.Pair, critical []int64) {
	for len(k.Faces) > 0 {
		if free := freeByRule(k); len(free) > 0 {
			k = leaving(k, free[0][0], free[0][1])
			pairs = append(pairs, free[0])
			continue
		}
		greatest := int64(0)
		for _, f := range k.Faces {
			if sizeOf(f) > sizeOf(greatest) || sizeOf(f) == sizeOf(greatest) && f > greatest {
				greatest = f
			}
		}
		k = leaving(k, greatest)
		critical = append(critical, greatest)
	}
	return pairs, critical
}

// leadsToOneVertex reports whether some free pairs, collapsed one after the other, lead to a complex
// of one vertex, by trying all of them. It remembers what it has found.
func leadsToOneVertex(k impl.Complex, known map[word]bool) bool {
	if len(k.Faces) == 1 {
		return true
	}
	own := wordOf(k.Faces)
	if found, ok := known[own]; ok {
		return found
	}
	known[own] = slices.ContainsFunc(freeByRule(k), func(p impl.Pair) bool {
		return leadsToOneVertex(leaving(k, p[0], p[1]), known)
	})
	return known[own]
}

// dominatedByRule returns the dominated vertices of k.
func dominatedByRule(k impl.Complex) []int64 {
	var found []int64
	for v := range k.Vertices {
		for w := range k.Vertices {
			if hasFace(k, 1<<v) && w != v && isInEachFacetWith(k, v, w) {
				found = append(found, v)
				break
			}
		}
	}
	return found
}

// isInEachFacetWith reports whether each facet with a vertex v has a vertex w.
func isInEachFacetWith(k impl.Complex, v, w int64) bool {
	for _, f := range k.Faces {
		if len(facesAround(k, f)) == 0 && f>>v&1 == 1 && f>>w&1 == 0 {
			return false
		}
	}
	return true
}

// facesWithVertex returns the faces of k that have a vertex.
func facesWithVertex(k impl.Complex, v int64) []int64 {
	return chosen(k.Vertices, func(f int64) bool { return hasFace(k, f) && f>>v&1 == 1 })
}

// coreByRule returns the core, and the vertices that were deleted.
func coreByRule(k impl.Complex) (impl.Complex, []int64) {
	var deleted []int64
	for {
		dominated := dominatedByRule(k)
		if len(dominated) == 0 {
			return k, deleted
		}
		k = leaving(k, facesWithVertex(k, dominated[0])...)
		deleted = append(deleted, dominated[0])
	}
}

// collapseComplexes returns all complexes with at most five Vertices, some with six, and chosen ones.
func collapseComplexes(t *testing.T) []impl.Complex {
	t.Helper()
	found := append(homologyComplexes(t), allComplexes(5)...)
	for _, text := range []string{
		"6:0123,34,45", "6:0123,134,45", "6:01234,35", "6:0123,45", "6:012,345", "6:0,12,345", "6:5", "6:012,013,014,234",
		"6:0123,0145,2345", "6:0123,0124,0134,0234,1234", "6:01234,01235,01245,01345,02345,12345", "6:012,023,034,045,015,124,235,134,245",
	} {
		found = append(found, madeOf(t, text))
	}
	return append(found, someComplexes(t, 6, 240)...)
}

// someParts returns parts of k: the empty one, the whole one, those of one facet, those of the faces
// up to a dimension, the stars and the parts on sets, and some that a fixed rule scatters.
func someParts(k impl.Complex) []impl.Complex {
	parts := []impl.Complex{complexOn(k.Vertices), k}
	add := func(wanted func(int64) bool) {
		parts = append(parts, complexOn(k.Vertices, chosen(k.Vertices, func(f int64) bool { return hasFace(k, f) && wanted(f) })...))
	}
	for x := range k.Vertices {
		add(func(f int64) bool { return sizeOf(f) <= x })
		add(func(f int64) bool { return hasFace(k, f|1<<x) })
		add(func(f int64) bool { return f>>x&1 == 0 })
	}
	for i, g := range k.Faces {
		if i%3 == 0 || len(facesAround(k, g)) == 0 {
			add(func(f int64) bool { return isInside(f, g) })
		}
	}
	state := uint32(len(k.Faces))
	for range min(len(k.Faces), 4) {
		g, h := k.Faces[scattered(&state, len(k.Faces))], k.Faces[scattered(&state, len(k.Faces))]
		add(func(f int64) bool { return isInside(f, g) || isInside(f, h) || sizeOf(f) == 1 })
	}
	return parts
}

// partSamples calls a function for all parts of the complexes with at most three Vertices, and for
// some parts of some larger ones.
func partSamples(t *testing.T, check func(k, l impl.Complex)) {
	t.Helper()
	for n := int64(1); n <= 3; n++ {
		for _, k := range allComplexes(n) {
			for _, l := range allComplexes(n) {
				if isPartOf(k, l) {
					check(k, l)
				}
			}
		}
	}
	for _, k := range homologyComplexes(t) {
		for _, l := range someParts(k) {
			check(k, l)
		}
	}
}

// isPartOf reports whether each face of l is one of k, as k has as many Vertices as l.
func isPartOf(k, l impl.Complex) bool {
	return !slices.ContainsFunc(l.Faces, func(f int64) bool { return !hasFace(k, f) })
}

// bettiUpTo5 returns the Betti numbers of the dimensions 0 to 5, which are 0 beyond that of k, as
// layer 3 tells them.
func bettiUpTo5(t *testing.T, k impl.Complex, p int64) [impl.MaxVertices]int64 {
	t.Helper()
	numbers, code := impl.BettiNumbers(k, p)
	if code != impl.ErrNone {
		t.Fatalf("BettiNumbers(%v, %d): code %d", k, p, code)
	}
	var all [impl.MaxVertices]int64
	copy(all[:], numbers)
	return all
}

// eulerOf returns the Euler number of k, as layer 1 tells it.
func eulerOf(t *testing.T, k impl.Complex) int64 {
	t.Helper()
	number, code := impl.EulerNumber(k)
	if code != impl.ErrNone {
		t.Fatalf("EulerNumber(%v): code %d", k, code)
	}
	return number
}
