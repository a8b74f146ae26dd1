package tests

import (
	"math"
	"slices"
	"testing"

	"loop.example/g01348/impl"
)

// call4 is a function of chapter 4; f and g are its functions, and c is its number. It returns the
// list of the result, whether every result is the zero value, and the code.
type call4 struct {
	name string
	run  func(k impl.Complex, f, g []int64, c int64) ([]int64, bool, int64)
}

// morseCalls4 returns the functions of chapter 4 that ask for Morse functions.
func morseCalls4() []call4 {
	return []call4{
		{"PairingOfFunction", func(k impl.Complex, f, g []int64, c int64) ([]int64, bool, int64) {
			return ofPairList(impl.PairingOfFunction(k, f))
		}},
		{"CriticalValues", func(k impl.Complex, f, g []int64, c int64) ([]int64, bool, int64) {
			return ofList(impl.CriticalValues(k, f))
		}},
		{"IsFlat", func(k impl.Complex, f, g []int64, c int64) ([]int64, bool, int64) {
			return ofFlag(impl.IsFlat(k, f))
		}},
		{"AreEquivalent", func(k impl.Complex, f, g []int64, c int64) ([]int64, bool, int64) {
			return ofFlag(impl.AreEquivalent(k, f, g))
		}},
		{"AreEquivalent, the other way around", func(k impl.Complex, f, g []int64, c int64) ([]int64, bool, int64) {
			return ofFlag(impl.AreEquivalent(k, g, f))
		}},
	}
}

// calls4 returns the functions of chapter 4 that ask for functions.
func calls4() []call4 {
	return append(morseCalls4(),
		call4{"IsMorseFunction", func(k impl.Complex, f, g []int64, c int64) ([]int64, bool, int64) {
			return ofFlag(impl.IsMorseFunction(k, f))
		}},
		call4{"LevelAt", func(k impl.Complex, f, g []int64, c int64) ([]int64, bool, int64) {
			return ofComplex(impl.LevelAt(k, f, c))
		}},
		call4{"EulerOfLevels", func(k impl.Complex, f, g []int64, c int64) ([]int64, bool, int64) {
			return ofList(impl.EulerOfLevels(k, f))
		}},
	)
}

// ofPairList returns the numbers of pairs one after the other.
func ofPairList(list []impl.Pair, code int64) ([]int64, bool, int64) {
	var numbers []int64
	for _, p := range list {
		numbers = append(numbers, p[0], p[1])
	}
	return numbers, len(list) == 0, code
}

// numbersBeyond are numbers that are just, or far, outside of what is told.
func numbersBeyond() []int64 {
	return []int64{1001, -1001, 1002, 1 << 32, 1<<32 + 1, -(1 << 32), math.MaxInt64, math.MinInt64, math.MinInt64 + 1, math.MinInt64 + 1000}
}

// listsThatAreNoFunctions returns lists that are no functions on the circle.
func listsThatAreNoFunctions() [][]int64 {
	bad := [][]int64{nil, {}, {0}, {2, 1, 2, 0, 3}, {2, 1, 2, 0, 3, 1, 3}, {0, 0, 1, 0, 1, 1, 1}, make([]int64, 63), make([]int64, 5000)}
	for _, x := range numbersBeyond() {
		for place := range 6 {
			list := []int64{2, 1, 2, 0, 3, 1}
			list[place] = x
			bad = append(bad, list)
		}
	}
	return append(bad, slices.Repeat([]int64{1001}, 6), slices.Repeat([]int64{-1001}, 6), []int64{1001, 1, 2, 0, 3})
}

// TestInvalidComplexesComeAheadOfFunctions gives invalid complexes along with lists and numbers that
// are as told, and with some that are not.
func TestInvalidComplexesComeAheadOfFunctions(t *testing.T) {
	for _, k := range invalidComplexes() {
		for _, f := range [][]int64{nil, {1}, make([]int64, len(k.Faces)), {1001}, {2, 1, 2, 0, 3, 1}} {
			for _, c := range calls4() {
				for _, x := range []int64{0, 1000, 1001, math.MinInt64} {
					if _, zero, code := c.run(k, f, nil, x); code != impl.ErrInvalid || !zero {
						t.Fatalf("%s of %v, %v and %d: code %d, zero value %v", c.name, k, f, x, code, zero)
					}
				}
			}
		}
		for _, list := range [][]impl.Pair{nil, {{1, 3}}, {{3, 1}}, {{1, 3}, {2, 6}, {4, 5}}} {
			if f, code := impl.FlatFunction(k, list); code != impl.ErrInvalid || len(f) > 0 {
				t.Fatalf("FlatFunction(%v, %v) = %v, %d", k, list, f, code)
			}
		}
		if f, code := impl.DimensionFunction(k); code != impl.ErrInvalid || len(f) > 0 {
			t.Fatalf("DimensionFunction(%v) = %v, %d", k, f, code)
		}
	}
}

func TestListsThatAreNoFunctions(t *testing.T) {
	circle := named(t, "circle")
	morse, none := []int64{2, 1, 2, 0, 3, 1}, []int64{1, 1, 1, 1, 1, 1}
	for _, f := range listsThatAreNoFunctions() {
		for _, g := range [][]int64{morse, none, f, nil} { // ErrRange comes ahead of ErrState
			for _, c := range calls4() {
				if _, zero, code := c.run(circle, f, g, 1000); code != impl.ErrRange || !zero {
					t.Errorf("%s of %v and %v: code %d, zero value %v", c.name, f, g, code, zero)
				}
			}
		}
	}
	for _, n := range []int64{1, 6} {
		for _, c := range calls4() {
			if _, zero, code := c.run(complexOn(n), []int64{0}, nil, 0); code != impl.ErrRange || !zero {
				t.Errorf("%s without faces: code %d, zero value %v", c.name, code, zero)
			}
		}
	}
}

func TestFunctionsOfTheGreatestNumbers(t *testing.T) {
	circle := named(t, "circle")
	for place := range 6 {
		for _, x := range []int64{1000, -1000} {
			f := []int64{2, 1, 2, 0, 3, 1}
			f[place] = x
			for _, c := range calls4() {
				if _, _, code := c.run(circle, f, f, x); code != impl.ErrNone && (code != impl.ErrState || isMorseByRule(circle, f)) {
					t.Errorf("%s of %v: code %d", c.name, f, code)
				}
			}
		}
	}
	low, high := slices.Repeat([]int64{-1000}, 4), slices.Repeat([]int64{1000}, 4)
	for _, f := range [][]int64{low, high, {1000, -1000, 1000, -1000}} {
		for _, c := range calls4() {
			if _, _, code := c.run(complexOn(4, 1, 2, 4, 8), f, f, 1000); code != impl.ErrNone {
				t.Errorf("%s of %v: code %d", c.name, f, code)
			}
		}
	}
}

func TestNumbersOfLevelsOutOfRange(t *testing.T) {
	for _, k := range []impl.Complex{complexOn(1), complexOn(6), named(t, "circle"), fullComplex(6)} {
		f := make([]int64, len(k.Faces))
		for _, c := range numbersBeyond() {
			if got, code := impl.LevelAt(k, f, c); code != impl.ErrRange || !sameComplex(got, impl.Complex{}) {
				t.Errorf("LevelAt(%v, %d) = %v, %d", k, c, got, code)
			}
		}
		if got, code := impl.LevelAt(k, f, 1000); code != impl.ErrNone || !sameComplex(got, k) {
			t.Errorf("LevelAt(%v, 1000) = %v, %d", k, got, code)
		}
		if got, code := impl.LevelAt(k, f, -1000); code != impl.ErrNone || !sameComplex(got, complexOn(k.Vertices)) {
			t.Errorf("LevelAt(%v, -1000) = %v, %d", k, got, code)
		}
	}
}

// TestFunctionsThatAreNoMorseFunctions gives functions to those functions that ask for Morse
// functions, and to the others.
func TestFunctionsThatAreNoMorseFunctions(t *testing.T) {
	circle, morse := named(t, "circle"), []int64{2, 1, 2, 0, 3, 1}
	for _, f := range [][]int64{make([]int64, 6), {1, 1, 1, 0, 2, 2}, {3, 0, 2, 0, 3, 3}, {5, 4, 3, 2, 1, 0}, slices.Repeat([]int64{-1000}, 6)} {
		for _, g := range [][]int64{morse, f} {
			for _, c := range morseCalls4() {
				if _, zero, code := c.run(circle, f, g, 0); code != impl.ErrState || !zero {
					t.Errorf("%s of %v and %v: code %d, zero value %v", c.name, f, g, code, zero)
				}
			}
		}
		morse, one := impl.IsMorseFunction(circle, f)
		_, two := impl.LevelAt(circle, f, 0)
		eulers, three := impl.EulerOfLevels(circle, f)
		if morse || one != impl.ErrNone || two != impl.ErrNone || three != impl.ErrNone || len(eulers) == 0 {
			t.Errorf("%v: %v, %v, codes %d, %d, %d", f, morse, eulers, one, two, three)
		}
	}
}

func TestErrorsOfSampleFunctions(t *testing.T) {
	functionSamples(t, func(k impl.Complex, f []int64) {
		want := int64(impl.ErrNone)
		if !isMorseByRule(k, f) {
			want = impl.ErrState
		}
		for _, c := range morseCalls4() {
			if _, zero, code := c.run(k, f, f, 0); code != want || code != impl.ErrNone && !zero {
				t.Fatalf("%s of %v and %v: code %d, zero value %v; want %d", c.name, k, f, code, zero, want)
			}
		}
	})
}

func TestFlatFunctionRefuses(t *testing.T) {
	for _, list := range listsThatAreNoPairings() {
		if f, code := impl.FlatFunction(fullComplex(3), list); code != impl.ErrRange || len(f) > 0 {
			t.Errorf("FlatFunction(%v) = %v, %d", list, f, code)
		}
	}
	circle, around, _ := circlePairings()
	for _, c := range []struct {
		k    impl.Complex
		list []impl.Pair
		code int64
	}{
		{circle, around, impl.ErrState}, {circle, []impl.Pair{{1, 5}, {2, 3}, {4, 6}}, impl.ErrState},
		{parsed(t, "4:012,013,023"), []impl.Pair{{3, 7}, {5, 13}, {9, 11}}, impl.ErrState},
		{parsed(t, "5:01,02,12,34"), append(slices.Clone(around), impl.Pair{8, 24}), impl.ErrState},
		{circle, append(slices.Clone(around), impl.Pair{4, 5}), impl.ErrRange}, // no pairing, and around
		{circle, []impl.Pair{{2, 6}, {1, 3}, {4, 5}}, impl.ErrRange},           // not ascending, and around
		{complexOn(3, 1, 2, 4, 3, 5), around, impl.ErrInvalid},                 // not ascending
		{complexOn(3, 1, 2, 3, 4, 5), around, impl.ErrRange},                   // without a face of it
		{complexOn(3), around, impl.ErrRange}, {complexOn(0), nil, impl.ErrInvalid},
	} {
		if f, code := impl.FlatFunction(c.k, c.list); code != c.code || len(f) > 0 {
			t.Errorf("FlatFunction(%v, %v) = %v, %d; want %d", c.k, c.list, f, code, c.code)
		}
	}
	samplePairings(t, func(k impl.Complex, list []impl.Pair) {
		want := int64(impl.ErrNone)
		if len(facesOnCyclesOf(k, list)) > 0 {
			want = impl.ErrState
		}
		if f, code := impl.FlatFunction(k, list); code != want || code != impl.ErrNone && len(f) > 0 {
			t.Fatalf("FlatFunction(%v, %v) = %v, %d; want %d", k, list, f, code, want)
		}
	})
}

// TestFunctionsStayAndResultsAreNew gives faces and functions with spare capacity, spoils each
// result, and looks whether the arguments or a second result have changed.
func TestFunctionsStayAndResultsAreNew(t *testing.T) {
	base, list := named(t, "circle"), []impl.Pair{{1, 3}, {2, 6}}
	faces, spare := append(slices.Clone(base.Faces), slices.Repeat([]int64{77}, 40)...), slices.Repeat([]int64{77}, 40)
	k := complexOn(3, faces[:6]...)
	pairs := append(slices.Clone(list), impl.Pair{77, 77})
	for _, base := range [][]int64{{2, 1, 2, 0, 3, 1}, {9, 1, 2, -5, 30, 0}, {0, 1, 2, 3, 4, 5}} {
		numbers := append(slices.Clone(base), spare...)
		faceCopy, numberCopy, pairCopy := slices.Clone(faces), slices.Clone(numbers), slices.Clone(pairs)
		f := numbers[:6]
		calls := append(calls4(),
			call4{"FlatFunction", func(k impl.Complex, f, g []int64, c int64) ([]int64, bool, int64) {
				return ofList(impl.FlatFunction(k, pairs[:2]))
			}},
			call4{"DimensionFunction", func(k impl.Complex, f, g []int64, c int64) ([]int64, bool, int64) {
				return ofList(impl.DimensionFunction(k))
			}})
		for _, c := range calls {
			first, _, code := c.run(k, f, f, 2)
			kept := slices.Clone(first)
			spoil(first)
			second, _, again := c.run(k, f, f, 2)
			if code != impl.ErrNone || again != impl.ErrNone || !slices.Equal(second, kept) {
				t.Errorf("%s of %v: %v, %d, then %v, %d", c.name, base, kept, code, second, again)
			}
			if !slices.Equal(faces, faceCopy) || !slices.Equal(numbers, numberCopy) || !slices.Equal(pairs, pairCopy) {
				t.Fatalf("%s changed its arguments: %v, %v, %v", c.name, faces, numbers, pairs)
			}
		}
	}
}

// TestPairingsOfFunctionsAreNew spoils a pairing that was given back, up to its capacity.
func TestPairingsOfFunctionsAreNew(t *testing.T) {
	circle, f := named(t, "circle"), []int64{2, 1, 2, 0, 3, 1}
	first, _ := impl.PairingOfFunction(circle, f)
	for i := range first[:cap(first)] {
		first[:cap(first)][i] = impl.Pair{-99, -99}
	}
	if second, code := impl.PairingOfFunction(circle, f); code != impl.ErrNone || !slices.Equal(second, []impl.Pair{{1, 3}, {2, 6}}) {
		t.Errorf("PairingOfFunction = %v, %d", second, code)
	}
	if !sameComplex(circle, complexOn(3, 1, 2, 3, 4, 5, 6)) || !slices.Equal(f, []int64{2, 1, 2, 0, 3, 1}) {
		t.Errorf("PairingOfFunction changed its arguments: %v, %v", circle, f)
	}
}

func TestMaxValue(t *testing.T) {
	if impl.MaxValue != 1000 {
		t.Errorf("MaxValue = %d", impl.MaxValue)
	}
}
