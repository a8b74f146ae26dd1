package tests

import (
	"math"
	"slices"
	"testing"

	"loop.example/g01348/impl"
)

// call2 is a function of chapter 2. It returns the numbers of the result, the pairs, whether every
// result is the zero value, and the code.
type call2 struct {
	name string
	run  func(k impl.Complex, list []impl.Pair, a, b int64) ([]int64, []impl.Pair, bool, int64)
}

func ofNumbers(list []int64, code int64) ([]int64, []impl.Pair, bool, int64) {
	return list, nil, len(list) == 0, code
}

func ofPairs(list []impl.Pair, code int64) ([]int64, []impl.Pair, bool, int64) {
	return nil, list, len(list) == 0, code
}

func ofAnswer(answer bool, code int64) ([]int64, []impl.Pair, bool, int64) {
	return nil, nil, !answer, code
}

// calls2 returns the functions of chapter 2 that return ErrRange for a list that is no pairing. a
// and b are the faces, and AddPair gets the pair of them.
func calls2() []call2 {
	return []call2{
		{"CriticalFaces", func(k impl.Complex, list []impl.Pair, a, b int64) ([]int64, []impl.Pair, bool, int64) {
			return ofNumbers(impl.CriticalFaces(k, list))
		}},
		{"CriticalNumbers", func(k impl.Complex, list []impl.Pair, a, b int64) ([]int64, []impl.Pair, bool, int64) {
			return ofNumbers(impl.CriticalNumbers(k, list))
		}},
		{"IsAcyclicPairing", func(k impl.Complex, list []impl.Pair, a, b int64) ([]int64, []impl.Pair, bool, int64) {
			return ofAnswer(impl.IsAcyclicPairing(k, list))
		}},
		{"FacesOnCycles", func(k impl.Complex, list []impl.Pair, a, b int64) ([]int64, []impl.Pair, bool, int64) {
			return ofNumbers(impl.FacesOnCycles(k, list))
		}},
		{"FacesReached", func(k impl.Complex, list []impl.Pair, a, b int64) ([]int64, []impl.Pair, bool, int64) {
			return ofNumbers(impl.FacesReached(k, list, a))
		}},
		{"CountGradientWays", func(k impl.Complex, list []impl.Pair, a, b int64) ([]int64, []impl.Pair, bool, int64) {
			count, code := impl.CountGradientWays(k, list, a, b)
			return nil, nil, count == 0, code
		}},
		{"OrderOfPairing", func(k impl.Complex, list []impl.Pair, a, b int64) ([]int64, []impl.Pair, bool, int64) {
			return ofNumbers(impl.OrderOfPairing(k, list))
		}},
		{"AddPair", func(k impl.Complex, list []impl.Pair, a, b int64) ([]int64, []impl.Pair, bool, int64) {
			return ofPairs(impl.AddPair(k, list, impl.Pair{a, b}))
		}},
	}
}

// callsWithoutRange2 returns the other two functions of chapter 2.
func callsWithoutRange2() []call2 {
	return []call2{
		{"IsPairing", func(k impl.Complex, list []impl.Pair, a, b int64) ([]int64, []impl.Pair, bool, int64) {
			return ofAnswer(impl.IsPairing(k, list))
		}},
		{"GreedyPairing", func(k impl.Complex, list []impl.Pair, a, b int64) ([]int64, []impl.Pair, bool, int64) {
			return ofPairs(impl.GreedyPairing(k))
		}},
	}
}

// listsThatAreNoPairings returns lists that are no pairings of the complex with all faces of three
// vertices, each for one reason.
func listsThatAreNoPairings() [][]impl.Pair {
	return [][]impl.Pair{
		{{2, 6}, {1, 3}}, {{4, 5}, {1, 3}, {2, 6}}, // not ascending
		{{1, 3}, {1, 3}}, {{1, 3}, {1, 5}}, {{1, 3}, {2, 3}}, {{1, 3}, {3, 7}}, // sharing a face
		{{1, 1}}, {{1, 2}}, {{3, 1}}, {{1, 6}}, {{1, 7}}, {{7, 7}}, {{3, 5}}, // no pairs of faces
		{{0, 1}}, {{0, 0}}, {{1, 9}}, {{8, 9}}, {{7, 15}}, {{1, 1 << 40}}, {{-1, 1}}, {{1, -1}}, // not of the complex
		{{math.MinInt64, 1}}, {{1, math.MaxInt64}}, {{math.MinInt64, math.MaxInt64}}, {{1, 1 | math.MinInt64}},
		{{1, 3}, {2, 6}, {5, 7}, {7, 15}}, slices.Repeat([]impl.Pair{{1, 3}}, 5000),
	}
}

// TestInvalidComplexesComeAheadOfPairings gives invalid complexes along with lists and numbers that
// are as told, and with some that are not.
func TestInvalidComplexesComeAheadOfPairings(t *testing.T) {
	for _, k := range invalidComplexes() {
		for _, c := range append(calls2(), callsWithoutRange2()...) {
			for _, list := range [][]impl.Pair{nil, {{1, 3}}, {{3, 1}}, {{1, 3}, {2, 6}, {4, 5}}} {
				for _, x := range []int64{1, 3, -1, math.MaxInt64} {
					if _, _, zero, code := c.run(k, list, x, 3); code != impl.ErrInvalid || !zero {
						t.Fatalf("%s of %v, %v and %d: code %d, zero value %v", c.name, k, list, x, code, zero)
					}
				}
			}
		}
	}
}

func TestListsThatAreNoPairings(t *testing.T) {
	k := fullComplex(3)
	for _, list := range listsThatAreNoPairings() {
		if answer, code := impl.IsPairing(k, list); answer || code != impl.ErrNone {
			t.Errorf("IsPairing(%v) = %v, %d", list, answer, code)
		}
		for _, c := range calls2() {
			if _, _, zero, code := c.run(k, list, 4, 6); code != impl.ErrRange || !zero {
				t.Errorf("%s of %v: code %d, zero value %v", c.name, list, code, zero)
			}
		}
	}
	for _, c := range calls2() {
		if _, _, zero, code := c.run(complexOn(3), []impl.Pair{{1, 3}}, 1, 3); code != impl.ErrRange || !zero {
			t.Errorf("%s without faces: code %d, zero value %v", c.name, code, zero)
		}
	}
}

func TestFacesThatAreNotOfTheComplex(t *testing.T) {
	circle, around, some := circlePairings()
	for _, list := range [][]impl.Pair{nil, some, around} { // no face comes before a cycle
		for _, x := range []int64{0, 7, 8, 9, -1, 63, 64, math.MaxInt64, math.MinInt64, math.MinInt64 + 1, 1<<32 + 1} {
			if got, code := impl.FacesReached(circle, list, x); code != impl.ErrRange || len(got) > 0 {
				t.Errorf("FacesReached(%v, %d) = %v, %d", list, x, got, code)
			}
			for _, ends := range [][2]int64{{x, 1}, {1, x}, {x, x}} {
				if got, code := impl.CountGradientWays(circle, list, ends[0], ends[1]); code != impl.ErrRange || got != 0 {
					t.Errorf("CountGradientWays(%v, %v) = %d, %d", list, ends, got, code)
				}
			}
		}
	}
	if got, code := impl.FacesReached(complexOn(6), nil, 1); code != impl.ErrRange || len(got) > 0 {
		t.Errorf("FacesReached = %v, %d", got, code)
	}
}

func TestAddPairRefusesWhatIsNoPair(t *testing.T) {
	circle, around, some := circlePairings()
	for _, list := range [][]impl.Pair{nil, some, around} {
		for _, bad := range listsThatAreNoPairings() {
			if p := bad[0]; len(bad) == 1 {
				if got, code := impl.AddPair(circle, list, p); code != impl.ErrRange || len(got) > 0 {
					t.Errorf("AddPair(%v, %v) = %v, %d", list, p, got, code)
				}
			}
		}
		if got, code := impl.AddPair(circle, list, impl.Pair{3, 7}); code != impl.ErrRange || len(got) > 0 {
			t.Errorf("AddPair(%v, {3, 7}) = %v, %d", list, got, code)
		}
	}
}

func TestPairingsThatAreNotAcyclic(t *testing.T) {
	circle, around, _ := circlePairings()
	want := map[string]int64{"CountGradientWays": impl.ErrState, "OrderOfPairing": impl.ErrState, "AddPair": impl.ErrState}
	for _, c := range calls2() {
		_, _, zero, code := c.run(circle, around, 1, 5)
		if code != want[c.name] || code != impl.ErrNone && !zero {
			t.Errorf("%s: code %d, zero value %v", c.name, code, zero)
		}
	}
	for _, ends := range [][2]int64{{1, 1}, {1, 2}, {3, 3}, {3, 5}} {
		if got, code := impl.CountGradientWays(circle, around, ends[0], ends[1]); code != impl.ErrState || got != 0 {
			t.Errorf("CountGradientWays(%v) = %d, %d", ends, got, code)
		}
	}
}

// TestPairingsStayAndResultsAreNew gives faces and lists with spare capacity, spoils each result,
// and looks whether the arguments or a second result have changed.
func TestPairingsStayAndResultsAreNew(t *testing.T) {
	k := fullComplex(3)
	spareFaces, sparePairs := slices.Repeat([]int64{77}, 40), slices.Repeat([]impl.Pair{{77, 77}}, 40)
	for _, base := range [][]impl.Pair{nil, {{2, 6}}, {{2, 6}, {5, 7}}} {
		faces, list := append(slices.Clone(k.Faces), spareFaces...), append(slices.Clone(base), sparePairs...)
		faceCopy, listCopy := slices.Clone(faces), slices.Clone(list)
		given := complexOn(3, faces[:len(k.Faces)]...)
		for _, c := range append(calls2(), callsWithoutRange2()...) {
			numbers, pairs, _, code := c.run(given, list[:len(base)], 1, 3)
			keptNumbers, keptPairs := slices.Clone(numbers), slices.Clone(pairs)
			spoil(numbers)
			for i := range pairs[:cap(pairs)] {
				pairs[:cap(pairs)][i] = impl.Pair{-99, -99}
			}
			numbers, pairs, _, again := c.run(given, list[:len(base)], 1, 3)
			if code != impl.ErrNone || again != impl.ErrNone || !slices.Equal(numbers, keptNumbers) || !slices.Equal(pairs, keptPairs) {
				t.Errorf("%s of %v: %v, %v, %d, then %v, %v, %d", c.name, base, keptNumbers, keptPairs, code, numbers, pairs, again)
			}
			if !slices.Equal(faces, faceCopy) || !slices.Equal(list, listCopy) {
				t.Fatalf("%s changed its arguments: %v, %v", c.name, faces, list)
			}
		}
	}
}
