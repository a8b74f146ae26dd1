package tests

import (
	"math"
	"slices"
	"testing"

	"loop.example/g01348/impl"
)

// result5 has the results of a function of chapter 5, those that it does not return as zero values.
type result5 struct {
	complex impl.Complex
	pairs   []impl.Pair
	list    []int64
	flag    bool
	code    int64
}

// isZero reports whether all results but the code are zero values.
func (r result5) isZero() bool {
	return sameComplex(r.complex, impl.Complex{}) && len(r.pairs) == 0 && len(r.list) == 0 && !r.flag
}

// kept returns a copy of the results.
func (r result5) kept() result5 {
	r.complex.Faces, r.pairs, r.list = slices.Clone(r.complex.Faces), slices.Clone(r.pairs), slices.Clone(r.list)
	return r
}

// equals reports whether two results are equal.
func (r result5) equals(o result5) bool {
	return sameComplex(r.complex, o.complex) && slices.Equal(r.pairs, o.pairs) && slices.Equal(r.list, o.list) && r.flag == o.flag && r.code == o.code
}

// spoil overwrites the results and the spare capacity behind them.
func (r result5) spoil() {
	spoil(r.complex.Faces)
	spoil(r.list)
	for i := range r.pairs[:cap(r.pairs)] {
		r.pairs[:cap(r.pairs)][i] = impl.Pair{-99, -99}
	}
}

// call5 is a function of chapter 5; x is its number, and l its part.
type call5 struct {
	name string
	run  func(k, l impl.Complex, x int64) result5
}

// numberCalls5 returns the functions of chapter 5 with a number.
func numberCalls5() []call5 {
	return []call5{
		{"CollapsePair", func(k, l impl.Complex, x int64) (r result5) {
			r.complex, r.code = impl.CollapsePair(k, x)
			return r
		}},
		{"IsFreeFace", func(k, l impl.Complex, x int64) (r result5) {
			r.flag, r.code = impl.IsFreeFace(k, x)
			return r
		}},
		{"DeleteVertex", func(k, l impl.Complex, x int64) (r result5) {
			r.complex, r.code = impl.DeleteVertex(k, x)
			return r
		}},
	}
}

// calls5 returns the functions of chapter 5.
func calls5() []call5 {
	return append(numberCalls5(),
		call5{"FreePairs", func(k, l impl.Complex, x int64) (r result5) {
			r.pairs, r.code = impl.FreePairs(k)
			return r
		}},
		call5{"CollapseOf", func(k, l impl.Complex, x int64) (r result5) {
			r.complex, r.pairs, r.code = impl.CollapseOf(k)
			return r
		}},
		call5{"IsCollapsible", func(k, l impl.Complex, x int64) (r result5) {
			r.flag, r.code = impl.IsCollapsible(k)
			return r
		}},
		call5{"CollapseKeeping", func(k, l impl.Complex, x int64) (r result5) {
			r.complex, r.pairs, r.code = impl.CollapseKeeping(k, l)
			return r
		}},
		call5{"DominatedVertices", func(k, l impl.Complex, x int64) (r result5) {
			r.list, r.code = impl.DominatedVertices(k)
			return r
		}},
		call5{"CoreOf", func(k, l impl.Complex, x int64) (r result5) {
			r.complex, r.list, r.code = impl.CoreOf(k)
			return r
		}},
		call5{"ReductionOf", func(k, l impl.Complex, x int64) (r result5) {
			r.pairs, r.list, r.code = impl.ReductionOf(k)
			return r
		}},
	)
}

// TestInvalidComplexesComeAheadOfCollapses gives invalid complexes along with numbers and parts that
// are as told, and with some that are not.
func TestInvalidComplexesComeAheadOfCollapses(t *testing.T) {
	for _, k := range invalidComplexes() {
		for _, l := range []impl.Complex{complexOn(k.Vertices), complexOn(2, 1), fullComplex(6), k} {
			for _, x := range []int64{0, 1, 2, 3, 64, -1, math.MaxInt64, math.MinInt64} {
				for _, c := range calls5() {
					if r := c.run(k, l, x); r.code != impl.ErrInvalid || !r.isZero() {
						t.Fatalf("%s of %v, %v and %d: %v", c.name, k, l, x, r)
					}
				}
			}
		}
	}
}

// TestInvalidPartsComeAheadOfOthers gives invalid complexes as parts: ErrInvalid comes ahead of
// ErrState, of which many have reasons, too.
func TestInvalidPartsComeAheadOfOthers(t *testing.T) {
	for _, l := range invalidComplexes() {
		for _, k := range []impl.Complex{complexOn(1), complexOn(6), named(t, "circle"), named(t, "ball"), fullComplex(6), complexOn(2, 1, 2, 3)} {
			if left, pairs, code := impl.CollapseKeeping(k, l); code != impl.ErrInvalid || len(pairs) > 0 || !sameComplex(left, impl.Complex{}) {
				t.Errorf("CollapseKeeping(%v, %v) = %v, %v, %d", k, l, left, pairs, code)
			}
		}
	}
}

func TestNumbersThatAreNoFaces(t *testing.T) {
	huge := []int64{math.MinInt64, math.MaxInt64, math.MinInt64 + 8, 1<<32 + 8, 1 << 62}
	for _, c := range numberCalls5() {
		if c.name == "DeleteVertex" {
			continue
		}
		for _, x := range append([]int64{0, -1, -8, 9, 10, 11, 13, 14, 15, 16, 17, 63, 64, 72}, huge...) {
			if r := c.run(madeOf(t, "4:012,23"), impl.Complex{}, x); r.code != impl.ErrRange || !r.isZero() {
				t.Errorf("%s of %d: %v", c.name, x, r)
			}
		}
		for _, x := range append([]int64{0, 1, 2, 32, 63, 64}, huge...) {
			if r := c.run(complexOn(6), impl.Complex{}, x); r.code != impl.ErrRange || !r.isZero() {
				t.Errorf("%s of %d without faces: %v", c.name, x, r)
			}
		}
		// 2 is a vertex of 0..n - 1 that is not there.
		for x, want := range map[int64]int64{1: impl.ErrNone, 2: impl.ErrRange, 4: impl.ErrNone, 3: impl.ErrRange} {
			if r := c.run(complexOn(3, 1, 4, 5), impl.Complex{}, x); r.code != want {
				t.Errorf("%s of %d: %v, want %d", c.name, x, r, want)
			}
		}
	}
}

func TestFacesThatAreNotFree(t *testing.T) {
	for _, c := range []struct {
		k     impl.Complex
		faces []int64
	}{
		{complexOn(1, 1), []int64{1}}, {complexOn(2, 1, 2, 3), []int64{3}}, {named(t, "circle"), []int64{1, 2, 3, 4, 5, 6}},
		{named(t, "octahedron"), named(t, "octahedron").Faces}, {named(t, "projective"), named(t, "projective").Faces},
		{madeOf(t, "4:012,23"), []int64{1, 2, 4, 7, 12}}, {madeOf(t, "4:012,123"), []int64{1, 2, 4, 6, 7, 8, 14}},
	} {
		for _, f := range c.faces {
			if k, code := impl.CollapsePair(c.k, f); code != impl.ErrState || !sameComplex(k, impl.Complex{}) {
				t.Errorf("CollapsePair(%v, %d) = %v, %d", c.k, f, k, code)
			}
			if yes, code := impl.IsFreeFace(c.k, f); code != impl.ErrNone || yes {
				t.Errorf("IsFreeFace(%v, %d) = %v, %d", c.k, f, yes, code)
			}
		}
	}
}

func TestVerticesAtAndBeyondBothEnds(t *testing.T) {
	for n := int64(1); n <= impl.MaxVertices; n++ {
		for _, k := range []impl.Complex{complexOn(n), complexOn(n, 1), fullComplex(n)} {
			for v := range n {
				if got, code := impl.DeleteVertex(k, v); code != impl.ErrNone || got.Vertices != n {
					t.Errorf("DeleteVertex(%v, %d) = %v, %d", k, v, got, code)
				}
			}
			for _, v := range []int64{-1, -2, -n, n, n + 1, 6, 7, 63, 64, 65, 1 << 32, -(1 << 32), math.MaxInt64, math.MinInt64, math.MinInt64 + 1} {
				if got, code := impl.DeleteVertex(k, v); code != impl.ErrRange || !sameComplex(got, impl.Complex{}) {
					t.Errorf("DeleteVertex(%v, %d) = %v, %d", k, v, got, code)
				}
			}
		}
	}
}

func TestPartsThatAreNone(t *testing.T) {
	k := madeOf(t, "4:012,23")
	for _, l := range []impl.Complex{
		complexOn(3), complexOn(5), complexOn(1), complexOn(6), // without faces, but with other Vertices
		complexOn(3, 1), complexOn(5, k.Faces...), complexOn(6, k.Faces...), complexOn(3, 1, 2, 3, 4, 5, 6, 7),
		madeOf(t, "4:03"), madeOf(t, "4:01,13"), madeOf(t, "4:012,23,03"), madeOf(t, "4:023"), madeOf(t, "4:0123"), madeOf(t, "4:012,123"),
		madeOf(t, "5:4"), madeOf(t, "5:012,23,4"),
	} {
		if left, pairs, code := impl.CollapseKeeping(k, l); code != impl.ErrState || len(pairs) > 0 || !sameComplex(left, impl.Complex{}) {
			t.Errorf("CollapseKeeping(%v, %v) = %v, %v, %d", k, l, left, pairs, code)
		}
	}
	for _, k := range []impl.Complex{complexOn(1), complexOn(6)} {
		for _, l := range []impl.Complex{complexOn(k.Vertices, 1), complexOn(7 - k.Vertices), complexOn(7-k.Vertices, 1)} {
			if left, pairs, code := impl.CollapseKeeping(k, l); code != impl.ErrState || len(pairs) > 0 || !sameComplex(left, impl.Complex{}) {
				t.Errorf("CollapseKeeping(%v, %v) = %v, %v, %d", k, l, left, pairs, code)
			}
		}
	}
}

// TestPartsOfAllSmallComplexes tries all complexes with up to three Vertices as parts of each other.
func TestPartsOfAllSmallComplexes(t *testing.T) {
	for _, k := range smallComplexes(3) {
		for _, l := range smallComplexes(3) {
			want := int64(impl.ErrNone)
			if k.Vertices != l.Vertices || !isPartOf(k, l) {
				want = impl.ErrState
			}
			left, pairs, code := impl.CollapseKeeping(k, l)
			if code != want || code != impl.ErrNone && (len(pairs) > 0 || !sameComplex(left, impl.Complex{})) {
				t.Fatalf("CollapseKeeping(%v, %v) = %v, %v, %d; want %d", k, l, left, pairs, code, want)
			}
		}
	}
}

// TestCollapsesLeaveArgumentsAndGiveNewResults gives faces with spare capacity, spoils each result,
// and looks whether the arguments or a second result have changed.
func TestCollapsesLeaveArgumentsAndGiveNewResults(t *testing.T) {
	spare := slices.Repeat([]int64{77}, 40)
	for _, texts := range [][2]string{
		{"4:012,23", "4:01,2"}, {"4:012,23", "4:"}, {"4:01,12,03,23", "4:01,12,03,23"}, {"6:012,34,5", "6:1,5"}, {"1:0", "1:0"}, {"3:", "3:"},
	} {
		base, part := madeOf(t, texts[0]), madeOf(t, texts[1])
		faces, partFaces := append(slices.Clone(base.Faces), spare...), append(slices.Clone(part.Faces), spare...)
		faceCopy, partCopy := slices.Clone(faces), slices.Clone(partFaces)
		k := complexOn(base.Vertices, faces[:len(base.Faces)]...)
		l := complexOn(part.Vertices, partFaces[:len(part.Faces)]...)
		for _, c := range calls5() {
			for x := range int64(9) {
				first := c.run(k, l, x)
				kept := first.kept()
				first.spoil()
				if second := c.run(k, l, x); !second.equals(kept) {
					t.Errorf("%s of %q, %q and %d: %v, then %v", c.name, texts[0], texts[1], x, kept, second)
				}
				if !slices.Equal(faces, faceCopy) || !slices.Equal(partFaces, partCopy) {
					t.Fatalf("%s changed its arguments: %v, %v", c.name, faces, partFaces)
				}
			}
		}
	}
}

// TestCollapsesGiveTheSameInParallel calls the functions from several goroutines, as none keeps
// state between calls.
func TestCollapsesGiveTheSameInParallel(t *testing.T) {
	k, l := madeOf(t, "6:0123,134,45,25"), madeOf(t, "6:01,45")
	for _, c := range calls5() {
		want := c.run(k, l, 4)
		results := make(chan result5)
		for range 8 {
			go func() { results <- c.run(k, l, 4) }()
		}
		for range 8 {
			if r := <-results; !r.equals(want) {
				t.Errorf("%s: %v, want %v", c.name, r, want)
			}
		}
	}
}
