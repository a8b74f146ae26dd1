package tests

import (
	"iter"
	"slices"
	"testing"

	"loop.example/g01348/impl"
)

// The helpers of this file follow the definitions of chapter 9 word by word; they use no function
// of layer 9.

// goesTo reports whether a vertex of a set goes to w.
func goesTo(list []int64, set, w int64) bool {
	for v, target := range list {
		if set>>v&1 == 1 && target == w {
			return true
		}
	}
	return false
}

// imageByRule returns the image of a set.
func imageByRule(list []int64, set int64) int64 {
	image := int64(0)
	for w := range int64(impl.MaxVertices) {
		if goesTo(list, set, w) {
			image += 1 << w
		}
	}
	return image
}

// isMapByRule reports whether a list is a map of k to l.
func isMapByRule(k, l impl.Complex, list []int64) bool {
	for _, w := range list {
		if w < 0 || w > l.Vertices-1 {
			return false
		}
	}
	return int64(len(list)) == k.Vertices
}

// isSimplicialByRule reports whether the images of all faces of k by a map are faces of l.
func isSimplicialByRule(k, l impl.Complex, list []int64) bool {
	for _, f := range k.Faces {
		if !hasFace(l, imageByRule(list, f)) {
			return false
		}
	}
	return true
}

// imagesByRule returns the images of all faces of k, ascending, each once.
func imagesByRule(k impl.Complex, list []int64) []int64 {
	return chosen(impl.MaxVertices, func(set int64) bool {
		return slices.ContainsFunc(k.Faces, func(f int64) bool { return imageByRule(list, f) == set })
	})
}

// fibreByRule returns the faces of k with an image in g.
func fibreByRule(k impl.Complex, list []int64, g int64) []int64 {
	return chosen(k.Vertices, func(f int64) bool { return hasFace(k, f) && isInside(imageByRule(list, f), g) })
}

// openFibreByRule returns the faces of k with the image g.
func openFibreByRule(k impl.Complex, list []int64, g int64) []int64 {
	return chosen(k.Vertices, func(f int64) bool { return hasFace(k, f) && imageByRule(list, f) == g })
}

// areContiguousByRule reports whether for each face of k its images by both maps together are a face.
func areContiguousByRule(k, l impl.Complex, a, b []int64) bool {
	for _, f := range k.Faces {
		if !hasFace(l, imageByRule(a, f)|imageByRule(b, f)) {
			return false
		}
	}
	return true
}

// isIsomorphismByRule reports whether a list of the numbers 0 to n - 1, each once, is an isomorphism.
func isIsomorphismByRule(k, l impl.Complex, list []int64) bool {
	images := word(0)
	for _, f := range k.Faces {
		images |= 1 << imageByRule(list, f)
	}
	return images == wordOf(l.Faces)
}

// sortedPermutations returns all lists of the numbers 0 to n - 1, each once, lexicographically.
func sortedPermutations(n int64) [][]int64 {
	return slices.SortedFunc(slices.Values(permutations(n)), slices.Compare)
}

// leastIsomorphismByRule returns the first isomorphism among all orders of the vertices, or nil.
func leastIsomorphismByRule(k, l impl.Complex, orders [][]int64) []int64 {
	for _, list := range orders {
		if isIsomorphismByRule(k, l, list) {
			return list
		}
	}
	return nil
}

// pairsWithout returns the pairs of the faces among some without v, and the same ones with it.
func pairsWithout(faces []int64, v int64) []impl.Pair {
	var pairs []impl.Pair
	for _, f := range faces {
		if f>>v&1 == 0 && slices.Contains(faces, f+1<<v) {
			pairs = append(pairs, impl.Pair{f, f + 1<<v})
		}
	}
	return pairs
}

// pairingByFibresByRule returns the pairing by fibres of a simplicial map.
func pairingByFibresByRule(k, l impl.Complex, list []int64) []impl.Pair {
	var pairing []impl.Pair
	for _, g := range l.Faces {
		fibre := openFibreByRule(k, list, g)
		for v := range k.Vertices {
			if pairs := pairsWithout(fibre, v); len(pairs) > 0 {
				for _, p := range pairs {
					pairing = insertPair(pairing, p)
				}
				break
			}
		}
	}
	return pairing
}

// allMaps ranges over all lists of n numbers in 0..m - 1, lexicographically.
func allMaps(n, m int64) iter.Seq[[]int64] {
	return func(yield func([]int64) bool) {
		list := make([]int64, n)
		for {
			if !yield(slices.Clone(list)) {
				return
			}
			place := n - 1
			for place >= 0 && list[place] == m-1 {
				list[place] = 0
				place--
			}
			if place < 0 {
				return
			}
			list[place]++
		}
	}
}

// countByRule counts the simplicial maps of k to l by trying all maps.
func countByRule(k, l impl.Complex) int64 {
	count := int64(0)
	for list := range allMaps(k.Vertices, l.Vertices) {
		if isSimplicialByRule(k, l, list) {
			count++
		}
	}
	return count
}

// scatteredList returns n numbers below m.
func scatteredList(state *uint32, n, m int64) []int64 {
	var list []int64
	for range n {
		list = append(list, int64(scattered(state, int(m))))
	}
	return list
}

// targetFor returns a complex with m Vertices that has the images of all faces of k by some maps
// together, and more as some more sets make it.
func targetFor(k impl.Complex, m int64, more []int64, lists ...[]int64) impl.Complex {
	return complexOn(m, chosen(m, func(set int64) bool {
		return slices.ContainsFunc(more, func(s int64) bool { return isInside(set, s) }) || slices.ContainsFunc(k.Faces, func(f int64) bool {
			image := int64(0)
			for _, list := range lists {
				image |= imageByRule(list, f)
			}
			return isInside(set, image)
		})
	})...)
}

// withoutFace returns a complex without a face and those that it is in.
func withoutFace(k impl.Complex, face int64) impl.Complex {
	return leaving(k, append(facesAround(k, face), face)...)
}

// mapComplexes returns complexes with four, five and six Vertices.
func mapComplexes(t *testing.T) []impl.Complex {
	t.Helper()
	found := append(allComplexes(4), someComplexes(t, 5, 40)...)
	found = append(append(found, someComplexes(t, 6, 40)...), fullComplex(5), fullComplex(6), complexOn(5), complexOn(6))
	for _, name := range []string{"bipyramid", "octahedron", "moebius", "projective", "wedge", "tree"} {
		found = append(found, named(t, name))
	}
	return found
}

// mapSamples calls a function for maps, simplicial ones and others: for all maps of all complexes with
// at most three Vertices to such, and for scattered maps of larger ones to their images with some
// more faces, and to these without one of the images.
func mapSamples(t *testing.T, check func(k, l impl.Complex, list []int64)) {
	t.Helper()
	for _, k := range smallComplexes(3) {
		for _, l := range smallComplexes(3) {
			for list := range allMaps(k.Vertices, l.Vertices) {
				check(k, l, list)
			}
		}
	}
	state := uint32(9)
	for _, k := range mapComplexes(t) {
		for m := int64(1); m <= impl.MaxVertices; m++ {
			list := scatteredList(&state, k.Vertices, m)
			more := scatteredList(&state, int64(scattered(&state, 4)), 1<<m)
			l := targetFor(k, m, more, list)
			check(k, l, list)
			if len(k.Faces) > 0 {
				check(k, withoutFace(l, imageByRule(list, k.Faces[scattered(&state, len(k.Faces))])), list)
			}
		}
	}
}

// simplicialSamples calls a function for those of mapSamples that are simplicial.
func simplicialSamples(t *testing.T, check func(k, l impl.Complex, list []int64)) {
	t.Helper()
	count := 0
	mapSamples(t, func(k, l impl.Complex, list []int64) {
		if isSimplicialByRule(k, l, list) {
			count++
			check(k, l, list)
		}
	})
	if count < 5000 {
		t.Errorf("only %d simplicial maps", count)
	}
}

// composedSamples calls a function for pairs of simplicial maps, one behind the other.
func composedSamples(t *testing.T, check func(k, l, m impl.Complex, first, second []int64)) {
	t.Helper()
	state := uint32(99)
	turn := 0
	simplicialSamples(t, func(k, l impl.Complex, first []int64) {
		turn++
		n := int64(turn%impl.MaxVertices + 1)
		second := scatteredList(&state, l.Vertices, n)
		more := scatteredList(&state, int64(scattered(&state, 3)), 1<<n)
		check(k, l, targetFor(l, n, more, second), first, second)
	})
}

// twoMapSamples calls a function for pairs of simplicial maps of k to l, contiguous ones and others:
// for all pairs between small complexes, and for scattered pairs between larger ones.
func twoMapSamples(t *testing.T, check func(k, l impl.Complex, a, b []int64)) {
	t.Helper()
	for i, k := range smallComplexes(3) {
		for j, l := range smallComplexes(3) {
			if k.Vertices+l.Vertices == 6 && (i+j)%6 != 0 {
				continue
			}
			maps := slices.DeleteFunc(slices.Collect(allMaps(k.Vertices, l.Vertices)), func(list []int64) bool { return !isSimplicialByRule(k, l, list) })
			for _, a := range maps {
				for _, b := range maps {
					check(k, l, a, b)
				}
			}
		}
	}
	state := uint32(999)
	for _, k := range mapComplexes(t) {
		for m := int64(1); m <= impl.MaxVertices; m++ {
			a := scatteredList(&state, k.Vertices, m)
			b := slices.Clone(a)
			for range 1 + scattered(&state, 2) {
				b[scattered(&state, len(b))] = int64(scattered(&state, int(m)))
			}
			together := targetFor(k, m, nil, a, b)
			check(k, together, a, b)
			check(k, targetFor(k, m, targetFor(k, m, nil, b).Faces, a), a, b)
		}
	}
}

// selfSamples calls a function for simplicial maps of complexes to themselves: for all of those with
// at most three Vertices, and for scattered maps of larger ones with all that the faces go to.
func selfSamples(t *testing.T, check func(k impl.Complex, list []int64)) {
	t.Helper()
	for _, k := range smallComplexes(3) {
		for list := range allMaps(k.Vertices, k.Vertices) {
			if isSimplicialByRule(k, k, list) {
				check(k, list)
			}
		}
	}
	state := uint32(9999)
	for _, k := range mapComplexes(t) {
		for range 4 {
			list := scatteredList(&state, k.Vertices, k.Vertices)
			whole := k
			for before := -1; before < len(whole.Faces); {
				before = len(whole.Faces)
				whole = targetFor(whole, k.Vertices, whole.Faces, list)
			}
			check(whole, list)
		}
	}
}
