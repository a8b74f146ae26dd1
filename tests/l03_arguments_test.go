package tests

import (
	"math"
	"slices"
	"testing"

	"loop.example/g01348/impl"
)

// call3 is a function of chapter 3; x is its number, p its other one, and a and b are its chains.
// It returns the list of the result, whether every result is the zero value, and the code.
type call3 struct {
	name string
	run  func(k impl.Complex, x, p int64, a, b []int64) ([]int64, bool, int64)
}

func ofFlag(flag bool, code int64) ([]int64, bool, int64) { return nil, !flag, code }

// numberCalls3 returns the functions of chapter 3 without chains.
func numberCalls3() []call3 {
	return []call3{
		{"SignsOf", func(k impl.Complex, x, p int64, a, b []int64) ([]int64, bool, int64) {
			return ofList(impl.SignsOf(k, x))
		}},
		{"RankOf", func(k impl.Complex, x, p int64, a, b []int64) ([]int64, bool, int64) {
			rank, code := impl.RankOf(k, x, p)
			return nil, rank == 0, code
		}},
		{"BettiNumbers", func(k impl.Complex, x, p int64, a, b []int64) ([]int64, bool, int64) {
			return ofList(impl.BettiNumbers(k, p))
		}},
		{"IsAcyclicComplex", func(k impl.Complex, x, p int64, a, b []int64) ([]int64, bool, int64) {
			return ofFlag(impl.IsAcyclicComplex(k, p))
		}},
		{"CountCycles", func(k impl.Complex, x, p int64, a, b []int64) ([]int64, bool, int64) {
			cycles, bounding, code := impl.CountCycles(k, x)
			return nil, cycles == 0 && bounding == 0, code
		}},
		{"ShortestCircle", func(k impl.Complex, x, p int64, a, b []int64) ([]int64, bool, int64) {
			return ofList(impl.ShortestCircle(k))
		}},
		{"FundamentalChain", func(k impl.Complex, x, p int64, a, b []int64) ([]int64, bool, int64) {
			return ofList(impl.FundamentalChain(k))
		}},
	}
}

// chainCalls3 returns the functions of chapter 3 with the chain a.
func chainCalls3() []call3 {
	return []call3{
		{"BoundaryOf", func(k impl.Complex, x, p int64, a, b []int64) ([]int64, bool, int64) {
			return ofList(impl.BoundaryOf(k, a))
		}},
		{"IsCycle", func(k impl.Complex, x, p int64, a, b []int64) ([]int64, bool, int64) {
			return ofFlag(impl.IsCycle(k, a))
		}},
		{"Bounds", func(k impl.Complex, x, p int64, a, b []int64) ([]int64, bool, int64) {
			return ofFlag(impl.Bounds(k, a))
		}},
		{"AreHomologous", func(k impl.Complex, x, p int64, a, b []int64) ([]int64, bool, int64) {
			return ofFlag(impl.AreHomologous(k, a, b))
		}},
		{"AreHomologous, the other way around", func(k impl.Complex, x, p int64, a, b []int64) ([]int64, bool, int64) {
			return ofFlag(impl.AreHomologous(k, b, a))
		}},
	}
}

// listsThatAreNoChains returns lists that are no chains of the complex with the faces 012 and 23 of
// four vertices, each for one reason.
func listsThatAreNoChains() [][]int64 {
	return [][]int64{
		{2, 1}, {1, 4, 2}, {6, 5, 3}, {12, 3}, // not ascending
		{1, 1}, {3, 3}, {7, 7}, {1, 2, 2}, {3, 5, 5, 6}, {12, 12}, // with a face twice
		{1, 3}, {1, 2, 3}, {3, 4}, {3, 7}, {6, 7}, {1, 7}, {4, 5, 6}, {7, 8}, {1, 2, 4, 12}, // of different dimensions
		{0}, {9}, {10}, {11}, {15}, {16}, {48}, {3, 9}, {3, 5, 6, 10}, {7, 11}, {1, 16}, {0, 1}, // not of the complex
		{-1}, {-1, 1}, {1, -1}, {64}, {1 << 40}, {math.MinInt64}, {math.MaxInt64}, {1, math.MaxInt64}, {math.MinInt64, 1},
		{math.MinInt64, math.MaxInt64}, {1 | math.MinInt64}, {1<<32 + 1}, {1, 1<<32 + 2},
		slices.Repeat([]int64{1}, 5000), slices.Repeat([]int64{1, 2, 4, 8}, 2000),
	}
}

// TestInvalidComplexesComeAheadOfChains gives invalid complexes along with numbers and chains that
// are as told, and with some that are not.
func TestInvalidComplexesComeAheadOfChains(t *testing.T) {
	for _, k := range invalidComplexes() {
		for _, c := range append(numberCalls3(), chainCalls3()...) {
			for _, a := range [][]int64{nil, {1}, {2, 1}, {3, 5, 6}} {
				for _, x := range []int64{1, 2, -1, math.MaxInt64} {
					if _, zero, code := c.run(k, x, x+1, a, []int64{3}); code != impl.ErrInvalid || !zero {
						t.Fatalf("%s of %v, %d and %v: code %d, zero value %v", c.name, k, x, a, code, zero)
					}
				}
			}
		}
	}
}

func TestNumbersOfChapter3OutOfRange(t *testing.T) {
	k := madeOf(t, "4:012,23")
	huge := []int64{math.MinInt64, math.MaxInt64, math.MinInt64 + 7, 1 << 32, 1<<32 + 1, 1<<32 + 2, 1<<32 + 3}
	for name, bad := range map[string][]int64{
		"SignsOf":     {0, -1, 9, 10, 15, 16, 17, 64},
		"RankOf":      {-1, 7, -2, 8},
		"CountCycles": {-1, 6, -2, 7},
	} {
		for _, x := range append(bad, huge...) {
			checkRange3(t, name, k, x, 2)
			checkRange3(t, name, complexOn(6), x, 3)
		}
	}
	for _, p := range append([]int64{0, 1, 4, 5, 6, 7, -1, -2, -3}, huge...) {
		for _, name := range []string{"RankOf", "BettiNumbers", "IsAcyclicComplex"} {
			checkRange3(t, name, k, 1, p)
			checkRange3(t, name, complexOn(1), 0, p)
			checkRange3(t, name, complexOn(6), -1, p)
		}
	}
	for _, x := range []int64{0, 1, 2, 32, 63, 64} {
		checkRange3(t, "SignsOf", complexOn(6), x, 2)
	}
}

// checkRange3 checks that the function with a name returns ErrRange for two numbers.
func checkRange3(t *testing.T, name string, k impl.Complex, x, p int64) {
	t.Helper()
	for _, c := range numberCalls3() {
		if c.name != name {
			continue
		}
		if _, zero, code := c.run(k, x, p, nil, nil); code != impl.ErrRange || !zero {
			t.Errorf("%s of %v, %d and %d: code %d, zero value %v", name, k, x, p, code, zero)
		}
	}
}

func TestNumbersOfChapter3ThatMeetTheirLimits(t *testing.T) {
	for _, k := range []impl.Complex{complexOn(1), complexOn(1, 1), complexOn(6), fullComplex(6)} {
		for _, p := range []int64{2, 3} {
			for _, d := range []int64{0, 6} {
				if rank, code := impl.RankOf(k, d, p); rank != 0 || code != impl.ErrNone {
					t.Errorf("RankOf(%v, %d, %d) = %d, %d", k, d, p, rank, code)
				}
			}
		}
		for _, d := range []int64{0, 5} {
			if cycles, bounding, code := impl.CountCycles(k, d); cycles < 1 || bounding < 1 || code != impl.ErrNone {
				t.Errorf("CountCycles(%v, %d) = %d, %d, %d", k, d, cycles, bounding, code)
			}
		}
	}
}

func TestListsThatAreNoChains(t *testing.T) {
	k := madeOf(t, "4:012,23")
	for _, list := range listsThatAreNoChains() {
		for _, c := range chainCalls3() {
			for _, other := range [][]int64{nil, {1}, {3}, {7}, list, {2, 1}} { // those of another dimension, too
				if _, zero, code := c.run(k, 0, 0, list, other); code != impl.ErrRange || !zero {
					t.Errorf("%s of %v and %v: code %d, zero value %v", c.name, list, other, code, zero)
				}
			}
		}
	}
	for _, c := range chainCalls3() {
		if _, zero, code := c.run(complexOn(6), 0, 0, []int64{1}, nil); code != impl.ErrRange || !zero {
			t.Errorf("%s without faces: code %d, zero value %v", c.name, code, zero)
		}
	}
}

// TestListsOnWhetherTheyAreChains tries all lists of up to three numbers.
func TestListsOnWhetherTheyAreChains(t *testing.T) {
	k := madeOf(t, "3:01,12")
	for code := range int64(9 * 9 * 9) {
		list := []int64{code % 9, code / 9 % 9, code / 81}
		for size := range 4 {
			want := int64(impl.ErrNone)
			for i, face := range list[:size] {
				if !hasFace(k, face) || sizeOf(face) != sizeOf(list[0]) || i > 0 && face <= list[i-1] {
					want = impl.ErrRange
				}
			}
			for _, c := range chainCalls3() {
				if _, _, got := c.run(k, 0, 0, list[:size], nil); got != want {
					t.Fatalf("%s of %v: code %d, want %d", c.name, list[:size], got, want)
				}
			}
		}
	}
}

func TestChainsOfDifferentDimensions(t *testing.T) {
	k := madeOf(t, "4:012,23")
	chains := [][]int64{{1}, {1, 2}, {4, 8}, {1, 2, 4, 8}, {3}, {3, 5, 6}, {12}, {3, 12}, {7}}
	for _, a := range chains {
		for _, b := range chains {
			want := int64(impl.ErrNone)
			if sizeOf(a[0]) != sizeOf(b[0]) {
				want = impl.ErrState
			}
			if yes, code := impl.AreHomologous(k, a, b); code != want || code != impl.ErrNone && yes {
				t.Errorf("AreHomologous(%v, %v) = %v, %d", a, b, yes, code)
			}
		}
	}
}

// TestChainsStayAndResultsAreNew gives faces and chains with spare capacity, spoils each result, and
// looks whether the arguments or a second result have changed.
func TestChainsStayAndResultsAreNew(t *testing.T) {
	base := named(t, "sphere")
	spare := slices.Repeat([]int64{77}, 40)
	circle, one := impl.ShortestCircle(named(t, "circle"))
	if one != impl.ErrNone {
		t.Fatalf("ShortestCircle: code %d", one)
	}
	for _, chain := range [][]int64{nil, {1}, circle, {7}, {7, 11, 13, 14}} {
		faces, list := append(slices.Clone(base.Faces), spare...), append(slices.Clone(chain), spare...)
		faceCopy, listCopy := slices.Clone(faces), slices.Clone(list)
		k := complexOn(4, faces[:len(base.Faces)]...)
		for _, c := range append(numberCalls3(), chainCalls3()...) {
			a := list[:len(chain)]
			first, _, code := c.run(k, 3, 2, a, a)
			kept := slices.Clone(first)
			spoil(first)
			second, _, again := c.run(k, 3, 2, a, a)
			if code != again || !slices.Equal(second, kept) {
				t.Errorf("%s of %v: %v, %d, then %v, %d", c.name, chain, kept, code, second, again)
			}
			if !slices.Equal(faces, faceCopy) || !slices.Equal(list, listCopy) {
				t.Fatalf("%s changed its arguments: %v, %v", c.name, faces, list)
			}
		}
	}
}

// TestShortestCirclesAreNew spoils a circle, as the sphere of the other test has none.
func TestShortestCirclesAreNew(t *testing.T) {
	faces := append(slices.Clone(named(t, "circle").Faces), slices.Repeat([]int64{77}, 40)...)
	k := complexOn(3, faces[:6]...)
	first, _ := impl.ShortestCircle(k)
	spoil(first)
	if second, code := impl.ShortestCircle(k); code != impl.ErrNone || !slices.Equal(second, []int64{3, 5, 6}) {
		t.Errorf("ShortestCircle = %v, %d", second, code)
	}
	if !slices.Equal(faces[:6], named(t, "circle").Faces) || faces[6] != 77 {
		t.Errorf("ShortestCircle changed its argument: %v", faces)
	}
}
