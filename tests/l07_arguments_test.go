package tests

import (
	"math"
	"slices"
	"testing"

	"loop.example/g01348/impl"
)

// result7 has the results of a function of chapter 7, those that it does not return as zero values.
type result7 struct {
	complex impl.Complex
	list    []int64
	flag    bool
	code    int64
}

// isZero reports whether all results but the code are zero values.
func (r result7) isZero() bool {
	return sameComplex(r.complex, impl.Complex{}) && len(r.list) == 0 && !r.flag
}

// kept returns a copy of the results.
func (r result7) kept() result7 {
	r.complex.Faces, r.list = slices.Clone(r.complex.Faces), slices.Clone(r.list)
	return r
}

// equals reports whether two results are equal.
func (r result7) equals(o result7) bool {
	return sameComplex(r.complex, o.complex) && slices.Equal(r.list, o.list) && r.flag == o.flag && r.code == o.code
}

// call7 is a function of chapter 7; x is its number, and list its list.
type call7 struct {
	name string
	run  func(k impl.Complex, x int64, list []int64) result7
}

// listCalls7 returns the functions of chapter 7 with a list.
func listCalls7() []call7 {
	return []call7{
		{"IsShelling", func(k impl.Complex, x int64, list []int64) (r result7) {
			r.flag, r.code = impl.IsShelling(k, list)
			return r
		}},
		{"RestrictionsOf", func(k impl.Complex, x int64, list []int64) (r result7) {
			r.list, r.code = impl.RestrictionsOf(k, list)
			return r
		}},
	}
}

// pureCalls7 returns the functions of chapter 7 that need a pure complex.
func pureCalls7() []call7 {
	return append(listCalls7(),
		call7{"FirstShelling", func(k impl.Complex, x int64, list []int64) (r result7) {
			r.list, r.code = impl.FirstShelling(k)
			return r
		}},
		call7{"BoundaryComplex", func(k impl.Complex, x int64, list []int64) (r result7) {
			r.complex, r.code = impl.BoundaryComplex(k)
			return r
		}},
	)
}

// calls7 returns the functions of chapter 7.
func calls7() []call7 {
	return append(pureCalls7(),
		call7{"DualOf", func(k impl.Complex, x int64, list []int64) (r result7) {
			r.complex, r.code = impl.DualOf(k)
			return r
		}},
		call7{"MissingFaces", func(k impl.Complex, x int64, list []int64) (r result7) {
			r.list, r.code = impl.MissingFaces(k)
			return r
		}},
		call7{"SuspensionOf", func(k impl.Complex, x int64, list []int64) (r result7) {
			r.complex, r.code = impl.SuspensionOf(k)
			return r
		}},
		call7{"IsPure", func(k impl.Complex, x int64, list []int64) (r result7) {
			r.flag, r.code = impl.IsPure(k)
			return r
		}},
		call7{"IsPseudomanifold", func(k impl.Complex, x int64, list []int64) (r result7) {
			r.flag, r.code = impl.IsPseudomanifold(k)
			return r
		}},
		call7{"FlipOf", func(k impl.Complex, x int64, list []int64) (r result7) {
			r.complex, r.code = impl.FlipOf(k, x)
			return r
		}},
		call7{"NumbersH", func(k impl.Complex, x int64, list []int64) (r result7) {
			r.list, r.code = impl.NumbersH(k)
			return r
		}},
	)
}

// TestInvalidComplexesComeAheadOfShellings gives invalid complexes along with numbers and lists that
// are as told, and with some that are not.
func TestInvalidComplexesComeAheadOfShellings(t *testing.T) {
	for _, k := range invalidComplexes() {
		for _, list := range [][]int64{nil, {1}, {3, 5, 6}, {-1}, k.Faces} {
			for _, x := range []int64{0, 1, 2, 3, 64, -1, math.MaxInt64, math.MinInt64} {
				for _, c := range calls7() {
					if r := c.run(k, x, list); r.code != impl.ErrInvalid || !r.isZero() {
						t.Fatalf("%s of %v, %d and %v: %v", c.name, k, x, list, r)
					}
				}
			}
		}
	}
}

func TestFlipsOfNumbersThatAreNoFaces(t *testing.T) {
	for _, x := range append([]int64{0, -1, -8, 9, 10, 11, 13, 14, 15, 16, 17, 63, 64, 72}, hugeNumbers()...) {
		for _, k := range []impl.Complex{madeOf(t, "4:012,23"), madeOf(t, "6:012,23"), complexOn(6, 1, 2, 3), complexOn(6)} {
			if got, code := impl.FlipOf(k, x); code != impl.ErrRange || !sameComplex(got, impl.Complex{}) {
				t.Errorf("FlipOf(%v, %d) = %v, %d", k, x, got, code)
			}
		}
	}
	for n := int64(1); n <= impl.MaxVertices; n++ {
		for x := int64(-1); x <= 1<<n; x++ {
			want := int64(impl.ErrState) // nothing is missing
			if x < 1 || x >= 1<<n {
				want = impl.ErrRange
			}
			if got, code := impl.FlipOf(fullComplex(n), x); code != want || !sameComplex(got, impl.Complex{}) {
				t.Errorf("FlipOf of all faces of %d and %d = %v, %d", n, x, got, code)
			}
			if got, code := impl.FlipOf(complexOn(n), x); code != impl.ErrRange || !sameComplex(got, impl.Complex{}) {
				t.Errorf("FlipOf without faces of %d and %d = %v, %d", n, x, got, code)
			}
		}
	}
}

func TestSuspensionsWithTooManyVertices(t *testing.T) {
	for n := int64(1); n <= impl.MaxVertices; n++ {
		for _, k := range []impl.Complex{complexOn(n), complexOn(n, 1), fullComplex(n)} {
			got, code := impl.SuspensionOf(k)
			if n <= 4 && (code != impl.ErrNone || got.Vertices != n+2) || n > 4 && (code != impl.ErrLimit || !sameComplex(got, impl.Complex{})) {
				t.Errorf("SuspensionOf(%v) = %v, %d", k, got, code)
			}
		}
	}
}

// listsThatAreNoShellings returns lists that do not have each facet of the square once.
func listsThatAreNoShellings() [][]int64 {
	return [][]int64{
		nil, {3}, {3, 6}, {3, 6, 9}, {6, 9, 12}, // one is missing
		{3, 6, 9, 9}, {3, 3, 6, 12}, {3, 6, 9, 12, 12}, {3, 6, 9, 12, 3}, {3, 3, 6, 6, 9, 9, 12, 12}, // one is there twice
		{3, 6, 9, 12, 1}, {1, 3, 6, 9, 12}, {3, 6, 9, 8}, {1, 2, 4, 8}, {3, 2, 6, 4, 12, 8, 9, 1}, // faces that are no facets
		{3, 6, 9, 5}, {3, 6, 9, 12, 5}, {3, 6, 9, 10}, {7, 13}, {15}, {0}, {0, 3, 6, 9, 12}, {3, 6, 9, 12, 0}, // no faces
		{3, 6, 9, -12}, {-3, 6, 9, 12}, {3, 6, 9, 64}, {3, 6, 9, 12, 64}, {3, 6, 9, 1<<32 + 12}, {3, 6, 9, 12 | math.MinInt64},
		{math.MinInt64}, {math.MaxInt64}, {3, 6, 9, math.MaxInt64}, {3, 6, 9, 12, math.MinInt64}, {1 << 62, 1 << 61},
		slices.Repeat([]int64{3}, 5000), slices.Repeat([]int64{3, 6, 9, 12}, 2000),
	}
}

func TestListsThatDoNotHaveEachFacetOnce(t *testing.T) {
	square := named(t, "square")
	for _, list := range listsThatAreNoShellings() {
		if yes, code := impl.IsShelling(square, list); code != impl.ErrNone || yes {
			t.Errorf("IsShelling(%v) = %v, %d", list, yes, code)
		}
		if got, code := impl.RestrictionsOf(square, list); code != impl.ErrState || len(got) > 0 {
			t.Errorf("RestrictionsOf(%v) = %v, %d", list, got, code)
		}
	}
	for _, n := range []int64{1, 6} { // without faces only the empty list is one
		for _, list := range [][]int64{{1}, {0}, {-1}, {0, 0}, {1, 2}, {math.MinInt64}} {
			yes, one := impl.IsShelling(complexOn(n), list)
			got, two := impl.RestrictionsOf(complexOn(n), list)
			if yes || one != impl.ErrNone || two != impl.ErrState || len(got) > 0 {
				t.Errorf("%v is a shelling without faces: %v, %d; %v, %d", list, yes, one, got, two)
			}
		}
	}
}

// TestAllShortListsAsShellings tries all lists of up to three numbers around the faces.
func TestAllShortListsAsShellings(t *testing.T) {
	for _, k := range []impl.Complex{complexOn(2), complexOn(2, 1), complexOn(2, 1, 2), fullComplex(2), named(t, "circle"), madeOf(t, "3:01,12"), madeOf(t, "3:0,1,2"), fullComplex(3)} {
		checkShelling(t, k, nil)
		for x := int64(-1); x <= 9; x++ {
			checkShelling(t, k, []int64{x})
			for y := int64(-1); y <= 9; y++ {
				checkShelling(t, k, []int64{x, y})
				for z := int64(-1); z <= 9; z++ {
					checkShelling(t, k, []int64{x, y, z})
				}
			}
		}
	}
}

func checkShelling(t *testing.T, k impl.Complex, list []int64) {
	t.Helper()
	want := isShellingByRule(k, list)
	if yes, code := impl.IsShelling(k, list); code != impl.ErrNone || yes != want {
		t.Fatalf("IsShelling(%v, %v) = %v, %d", k, list, yes, code)
	}
	if got, code := impl.RestrictionsOf(k, list); want != (code == impl.ErrNone) || !want && (code != impl.ErrState || len(got) > 0) {
		t.Fatalf("RestrictionsOf(%v, %v) = %v, %d", k, list, got, code)
	}
}

// TestComplexesThatAreNotPure gives lists that would be shellings otherwise, and lists that are none.
func TestComplexesThatAreNotPure(t *testing.T) {
	for _, text := range []string{"3:01,2", "3:0,12", "4:012,23", "4:012,3", "5:012,013,023,123,34", "6:01234,5", "6:0,12345", "5:01,12,3,4", "6:0123,345"} {
		k := madeOf(t, text)
		facets := facetsByRule(k)
		for _, list := range [][]int64{facets, nil, {0}, {-1}, {facets[0]}, k.Faces, facetsByRule(named(t, "square"))} {
			for _, c := range pureCalls7() {
				if r := c.run(k, 0, list); r.code != impl.ErrState || !r.isZero() {
					t.Errorf("%s of %q and %v: %v", c.name, text, list, r)
				}
			}
		}
	}
}

// TestShellingsLeaveArgumentsAndGiveNewResults gives lists with spare capacity, spoils each result,
// and looks whether the arguments or a second result have changed.
func TestShellingsLeaveArgumentsAndGiveNewResults(t *testing.T) {
	spare := slices.Repeat([]int64{77}, 40)
	for _, c := range []struct {
		text string
		list []int64
	}{
		{"1:", nil}, {"6:", nil}, {"1:0", []int64{1}}, {"3:0,1,2", []int64{4, 1, 2}}, {"4:01,12,23,03", []int64{12, 9, 6, 3}}, {"4:01,12,23,03", []int64{3, 12, 6, 9}},
		{"4:012,123", []int64{14, 7}}, {"4:012,23", []int64{7, 12}}, {"5:013,014,023,024,123,124", []int64{26, 11, 13, 22, 19, 21}}, {"6:012345", []int64{63}}, {"6:25", []int64{36}},
	} {
		base := madeOf(t, c.text)
		faces, list := append(slices.Clone(base.Faces), spare...), append(slices.Clone(c.list), spare...)
		faceCopy, listCopy := slices.Clone(faces), slices.Clone(list)
		k := complexOn(base.Vertices, faces[:len(base.Faces)]...)
		for _, call := range calls7() {
			for x := range int64(16) {
				first := call.run(k, x, list[:len(c.list)])
				kept := first.kept()
				spoil(first.complex.Faces)
				spoil(first.list)
				if second := call.run(k, x, list[:len(c.list)]); !second.equals(kept) {
					t.Errorf("%s of %q, %d and %v: %v, then %v", call.name, c.text, x, c.list, kept, second)
				}
				if !slices.Equal(faces, faceCopy) || !slices.Equal(list, listCopy) {
					t.Fatalf("%s changed its arguments: %v, %v", call.name, faces, list)
				}
			}
		}
	}
}

// TestShellingsGiveTheSameInParallel calls the functions from several goroutines, as none keeps state
// between calls.
func TestShellingsGiveTheSameInParallel(t *testing.T) {
	k, list := named(t, "octahedron"), []int64{42, 41, 38, 37, 26, 25, 22, 21}
	for _, c := range calls7() {
		want := c.run(k, 5, list)
		results := make(chan result7)
		for range 8 {
			go func() { results <- c.run(k, 5, list) }()
		}
		for range 8 {
			if r := <-results; !r.equals(want) {
				t.Errorf("%s: %v, want %v", c.name, r, want)
			}
		}
	}
}
