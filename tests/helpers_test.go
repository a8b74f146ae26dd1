package tests

import (
	"math/bits"
	"slices"
	"testing"

	"loop.example/g01348/impl"
)

// sameComplex reports whether two complexes are equal, with nil and empty faces alike.
func sameComplex(k, l impl.Complex) bool {
	return k.Vertices == l.Vertices && slices.Equal(k.Faces, l.Faces)
}

// complexOn makes a complex from faces that are written out.
func complexOn(n int64, faces ...int64) impl.Complex {
	return impl.Complex{Vertices: n, Faces: faces}
}

// fullComplex returns the complex with all sets of n vertices as faces.
func fullComplex(n int64) impl.Complex {
	k := impl.Complex{Vertices: n}
	for face := int64(1); face < 1<<n; face++ {
		k.Faces = append(k.Faces, face)
	}
	return k
}

// parsed returns the complex with a text.
func parsed(t *testing.T, text string) impl.Complex {
	t.Helper()
	k, code := impl.ParseComplex(text)
	if code != impl.ErrNone {
		t.Fatalf("ParseComplex(%q): code %d", text, code)
	}
	return k
}

// named returns the complex with a name.
func named(t *testing.T, name string) impl.Complex {
	t.Helper()
	k, code := impl.NamedComplex(name)
	if code != impl.ErrNone {
		t.Fatalf("NamedComplex(%q): code %d", name, code)
	}
	return k
}

// allComplexes returns each complex with n Vertices once. A set may become a face as soon as all
// sets with one vertex less in it are faces, and these have smaller numbers.
func allComplexes(n int64) []impl.Complex {
	var found []impl.Complex
	var extend func(faces []int64, next int64)
	extend = func(faces []int64, next int64) {
		if next == 1<<n {
			found = append(found, impl.Complex{Vertices: n, Faces: slices.Clone(faces)})
			return
		}
		extend(faces, next+1)
		if canFollow(faces, next) {
			extend(append(faces, next), next+1)
		}
	}
	extend(nil, 1)
	return found
}

// canFollow reports whether all sets with one vertex less in a set are among the faces.
func canFollow(faces []int64, set int64) bool {
	for v := range int64(impl.MaxVertices) {
		rest := set &^ (1 << v)
		if rest != set && rest != 0 && !slices.Contains(faces, rest) {
			return false
		}
	}
	return true
}

// someComplexes returns complexes with n Vertices made by sets that a fixed rule scatters.
func someComplexes(t *testing.T, n int64, count int) []impl.Complex {
	t.Helper()
	var found []impl.Complex
	state := uint32(12345)
	for i := range count {
		var sets []int64
		for range i % 12 {
			state = state*1664525 + 1013904223
			sets = append(sets, int64(state>>16)%(1<<n-1)+1)
		}
		k, code := impl.ComplexOf(n, sets)
		if code != impl.ErrNone {
			t.Fatalf("ComplexOf(%d, %v): code %d", n, sets, code)
		}
		found = append(found, k)
	}
	return found
}

// smallComplexes returns all complexes with at most most Vertices.
func smallComplexes(most int64) []impl.Complex {
	var found []impl.Complex
	for n := int64(1); n <= most; n++ {
		found = append(found, allComplexes(n)...)
	}
	return found
}

// sampleComplexes returns all complexes with at most four Vertices, some with five and six, those
// with all faces, and those without any.
func sampleComplexes(t *testing.T) []impl.Complex {
	t.Helper()
	found := smallComplexes(4)
	found = append(found, someComplexes(t, 5, 60)...)
	found = append(found, someComplexes(t, 6, 60)...)
	return append(found, fullComplex(5), fullComplex(6), complexOn(5), complexOn(6))
}

// chosen returns the sets of n vertices that a condition holds for, ascending.
func chosen(n int64, wanted func(int64) bool) []int64 {
	var sets []int64
	for set := int64(1); set < 1<<n; set++ {
		if wanted(set) {
			sets = append(sets, set)
		}
	}
	return sets
}

func hasFace(k impl.Complex, face int64) bool { return slices.Contains(k.Faces, face) }

func sizeOf(set int64) int64 { return int64(bits.OnesCount64(uint64(set))) }

// isInside reports whether a set lies in another one, which may be the same.
func isInside(part, set int64) bool { return part|set == set }

// permutations returns all lists of the numbers 0 to n - 1, each once.
func permutations(n int64) [][]int64 {
	if n == 0 {
		return [][]int64{nil}
	}
	var found [][]int64
	for _, p := range permutations(n - 1) {
		for place := range len(p) + 1 {
			found = append(found, slices.Insert(slices.Clone(p), place, n-1))
		}
	}
	return found
}
