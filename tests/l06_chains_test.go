package tests

import (
	"slices"
	"testing"

	"loop.example/g01348/impl"
)

// Promise 6.

func TestNumbersOfHolesAreBettiNumbers(t *testing.T) {
	known := map[word][]int64{}
	check := func(k impl.Complex, list []impl.Pair) {
		if _, ok := known[wordOf(k.Faces)]; !ok {
			known[wordOf(k.Faces)] = bettiOf(k, 2)
		}
		holes, one := impl.HolesOf(k, list)
		numbers, two := impl.BettiNumbers(k, 2)
		if one != impl.ErrNone || two != impl.ErrNone || !slices.Equal(holes, numbers) || !slices.Equal(holes, known[wordOf(k.Faces)]) {
			t.Fatalf("HolesOf(%v, %v) = %v, %d; Betti numbers %v, %d", k, list, holes, one, numbers, two)
		}
	}
	acyclicSamples(t, check)
	windingSamples(t, check)
}

// TestNumbersOfHolesOfManyComplexes takes the pairings that layers 2 and 5 make, and the empty one.
func TestNumbersOfHolesOfManyComplexes(t *testing.T) {
	for _, k := range append(allComplexes(5), someComplexes(t, 6, 240)...) {
		want, one := impl.BettiNumbers(k, 2)
		greedy, two := impl.GreedyPairing(k)
		collapsed, _, three := impl.ReductionOf(k)
		var reduction []impl.Pair
		for _, p := range collapsed {
			reduction = insertPair(reduction, p)
		}
		if one != impl.ErrNone || two != impl.ErrNone || three != impl.ErrNone {
			t.Fatalf("%v: codes %d, %d, %d", k, one, two, three)
		}
		for _, list := range [][]impl.Pair{nil, greedy, reduction} {
			if got, code := impl.HolesOf(k, list); code != impl.ErrNone || !slices.Equal(got, want) {
				t.Fatalf("HolesOf(%v, %v) = %v, %d; Betti numbers %v", k, list, got, code, want)
			}
		}
	}
}

func TestEndsDoNotFlow(t *testing.T) {
	moved := 0
	chainSamples(t, func(k impl.Complex, list []impl.Pair, chain []int64) {
		end, one := impl.EndOfFlow(k, list, chain)
		flow, two := impl.FlowOf(k, list, end)
		if one != impl.ErrNone || two != impl.ErrNone || !slices.Equal(flow, end) || !slices.Equal(flowByRule(k, list, end), end) {
			t.Fatalf("EndOfFlow(%v, %v, %v) = %v, %d, which flows to %v, %d", k, list, chain, end, one, flow, two)
		}
		if len(end) > 0 && !slices.Equal(end, chain) {
			moved++
		}
	})
	if moved < 1000 {
		t.Errorf("only %d chains have moved to an end that is not empty", moved)
	}
}

func TestCriticalChainsDoNotFlow(t *testing.T) {
	check := func(k impl.Complex, list []impl.Pair) {
		for _, b := range k.Faces {
			if !isCriticalByRule(k, list, b) {
				continue
			}
			chain, one := impl.CriticalChain(k, list, b)
			flow, two := impl.FlowOf(k, list, chain)
			if one != impl.ErrNone || two != impl.ErrNone || !slices.Equal(flow, chain) || !slices.Equal(flowByRule(k, list, chain), chain) {
				t.Fatalf("CriticalChain(%v, %v, %d) = %v, %d, which flows to %v, %d", k, list, b, chain, one, flow, two)
			}
		}
	}
	acyclicSamples(t, check)
	windingSamples(t, check)
}

// Promise 13.

func TestNumbersOfHolesAreAtMostNumbersOfCriticalFaces(t *testing.T) {
	less := map[bool]int{}
	check := func(k impl.Complex, list []impl.Pair) {
		holes, one := impl.HolesOf(k, list)
		numbers, two := impl.CriticalNumbers(k, list)
		if one != impl.ErrNone || two != impl.ErrNone || len(holes) != len(numbers) || int64(len(holes)) != topDimension(k)+1 {
			t.Fatalf("HolesOf(%v, %v) = %v, %d; CriticalNumbers %v, %d", k, list, holes, one, numbers, two)
		}
		for i, number := range holes {
			if number < 0 || number > int64(len(criticalOf(k, list, int64(i)))) || number > numbers[i] {
				t.Fatalf("HolesOf(%v, %v) = %v; critical faces: %v", k, list, holes, numbers)
			}
		}
		less[!slices.Equal(holes, numbers)]++
	}
	acyclicSamples(t, check)
	windingSamples(t, check)
	if less[true] < 100 || less[false] < 100 {
		t.Errorf("the samples are too few: %v", less)
	}
}

// The rest of the guarantee.

func TestCancelledPairingsHaveTwoCriticalFacesLess(t *testing.T) {
	count := 0
	waySamples(t, func(k impl.Complex, list []impl.Pair, b, a int64) {
		cancelled, code := impl.CancelFaces(k, list, b, a)
		if code == impl.ErrState {
			return
		}
		count++
		acyclic, one := impl.IsAcyclicPairing(k, cancelled)
		critical, two := impl.CriticalFaces(k, cancelled)
		before, _ := impl.CriticalFaces(k, list)
		if code != impl.ErrNone || one != impl.ErrNone || two != impl.ErrNone || !acyclic || len(cancelled) != len(list)+1 || len(critical) != len(before)-2 {
			t.Fatalf("CancelFaces(%v, %v, %d, %d) = %v, %d: acyclic %v, critical faces %v", k, list, b, a, cancelled, code, acyclic, critical)
		}
		if !isPairingOf(k, cancelled) || len(facesOnCyclesOf(k, cancelled)) > 0 || slices.Contains(critical, a) || slices.Contains(critical, b) {
			t.Fatalf("CancelFaces(%v, %v, %d, %d) = %v", k, list, b, a, cancelled)
		}
		holes, one := impl.HolesOf(k, list)
		again, two := impl.HolesOf(k, cancelled)
		if one != impl.ErrNone || two != impl.ErrNone || !slices.Equal(holes, again) {
			t.Fatalf("HolesOf(%v, %v) = %v, %d; of %v: %v, %d", k, list, holes, one, cancelled, again, two)
		}
	})
	if count < 1000 {
		t.Errorf("only %d faces have been cancelled", count)
	}
}

func TestBoundariesOfFlowsAreFlowsOfBoundaries(t *testing.T) {
	chainSamples(t, func(k impl.Complex, list []impl.Pair, chain []int64) {
		flow, one := impl.FlowOf(k, list, chain)
		other, two := impl.FlowOf(k, list, boundaryByRule(k, chain))
		if one != impl.ErrNone || two != impl.ErrNone || !slices.Equal(boundaryByRule(k, flow), other) {
			t.Fatalf("FlowOf(%v, %v, %v) = %v, %d, with another boundary than %v, %d", k, list, chain, flow, one, other, two)
		}
	})
}

// TestBoundariesOfCriticalChainsAreToldByMorseBoundaries holds chapter 6 together: the boundary of
// the critical chain of b is the sum of those of the faces with a 1 in the row of b.
func TestBoundariesOfCriticalChainsAreToldByMorseBoundaries(t *testing.T) {
	check := func(k impl.Complex, list []impl.Pair) {
		for p := int64(1); p <= topDimension(k); p++ {
			rows, code := impl.MorseBoundary(k, list, p)
			high, low := criticalOf(k, list, p), criticalOf(k, list, p-1)
			if code != impl.ErrNone || len(rows) != len(high) {
				t.Fatalf("MorseBoundary(%v, %v, %d) = %v, %d", k, list, p, rows, code)
			}
			for i, b := range high {
				chain, code := impl.CriticalChain(k, list, b)
				var sum []int64
				for j, a := range low {
					if own, _ := impl.CriticalChain(k, list, a); rows[i][j] == 1 {
						sum = sumOf(sum, own)
					}
				}
				if code != impl.ErrNone || !slices.Equal(boundaryByRule(k, chain), sum) {
					t.Fatalf("%v, %v: the critical chain %v of %d, %d has not the boundary %v", k, list, chain, b, code, sum)
				}
			}
		}
	}
	acyclicSamples(t, check)
	windingSamples(t, check)
}

// waySamples calls a function for all critical faces of one dimension more and of one less, of some
// acyclic pairings.
func waySamples(t *testing.T, check func(k impl.Complex, list []impl.Pair, b, a int64)) {
	t.Helper()
	each := func(k impl.Complex, list []impl.Pair) {
		for p := range topDimension(k) + 1 {
			for _, b := range criticalOf(k, list, p) {
				for _, a := range criticalOf(k, list, p-1) {
					check(k, list, b, a)
				}
			}
		}
	}
	acyclicSamples(t, each)
	windingSamples(t, each)
}

// Ways between critical faces.

func TestWaysBetweenAndCancelFacesByDefinition(t *testing.T) {
	seen := map[int]int{}
	waySamples(t, func(k impl.Complex, list []impl.Pair, b, a int64) {
		ways := allWaysBetween(k, list, b, a)
		seen[min(len(ways), 3)]++
		if got, code := impl.WaysBetween(k, list, b, a); code != impl.ErrNone || got != int64(len(ways)) {
			t.Fatalf("WaysBetween(%v, %v, %d, %d) = %d, %d; want %v", k, list, b, a, got, code, ways)
		}
		var want []impl.Pair
		wantCode := int64(impl.ErrState)
		if len(ways) == 1 {
			want, wantCode = cancelledByRule(list, b, ways[0]), impl.ErrNone
		}
		if got, code := impl.CancelFaces(k, list, b, a); code != wantCode || !slices.Equal(got, want) {
			t.Fatalf("CancelFaces(%v, %v, %d, %d) = %v, %d; want %v, %d", k, list, b, a, got, code, want, wantCode)
		}
	})
	if seen[0] < 100 || seen[1] < 100 || seen[2] < 100 || seen[3] < 10 {
		t.Errorf("the samples are too few: %v", seen)
	}
}

// TestWaysBetweenAllNumbers asks for all numbers in place of critical faces, and for all those around
// them.
func TestWaysBetweenAllNumbers(t *testing.T) {
	acyclicSamples(t, func(k impl.Complex, list []impl.Pair) {
		if k.Vertices > 3 && len(list)%3 > 0 {
			return
		}
		for b := int64(-1); b <= 1<<k.Vertices; b++ {
			for a := int64(-1); a <= 1<<k.Vertices; a++ {
				if k.Vertices > 4 && (a+b)%7 > 0 {
					continue
				}
				such := isCriticalByRule(k, list, b) && isCriticalByRule(k, list, a) && sizeOf(b) == sizeOf(a)+1
				ways, one := impl.WaysBetween(k, list, b, a)
				cancelled, two := impl.CancelFaces(k, list, b, a)
				if !such && (one != impl.ErrRange || two != impl.ErrRange || ways != 0 || len(cancelled) > 0) || such && (one != impl.ErrNone || two == impl.ErrRange) {
					t.Fatalf("%v, %v: ways between %d and %d: %d, %d; cancelled %v, %d", k, list, b, a, ways, one, cancelled, two)
				}
			}
		}
	})
}

func TestWaysBetweenExamples(t *testing.T) {
	for _, c := range []struct {
		text string
		list []impl.Pair
		b, a int64
		want int64
	}{
		{"2:01", nil, 3, 1, 1}, {"2:01", nil, 3, 2, 1},
		{"3:01,02,12", nil, 5, 1, 1}, {"3:01,02,12", nil, 5, 2, 0}, // without pairs: those in the face alone
		{"3:01,02,12", []impl.Pair{{1, 3}}, 5, 2, 1}, {"3:01,02,12", []impl.Pair{{1, 3}}, 5, 4, 1}, {"3:01,02,12", []impl.Pair{{1, 3}}, 6, 4, 1},
		{"3:01,02,12", []impl.Pair{{1, 3}, {2, 6}}, 5, 4, 2}, // around both sides
		{"3:01,02,12", []impl.Pair{{2, 3}, {4, 6}}, 5, 1, 2},
		{"4:01,23", nil, 3, 4, 0}, {"4:01,23", []impl.Pair{{1, 3}}, 12, 2, 0}, // in another component
		{"3:012", []impl.Pair{{1, 3}, {2, 6}}, 7, 5, 1}, {"3:012", []impl.Pair{{1, 3}, {2, 6}}, 5, 4, 2},
		{"3:012", []impl.Pair{{1, 5}}, 7, 3, 1}, {"3:012", []impl.Pair{{1, 5}}, 7, 6, 1},
		{"4:012,123", []impl.Pair{{3, 7}}, 14, 6, 1}, {"4:012,123", []impl.Pair{{3, 7}}, 14, 5, 0},
		{"4:012,123", []impl.Pair{{6, 7}}, 14, 3, 1}, {"4:012,123", []impl.Pair{{6, 7}}, 14, 5, 1}, {"4:012,123", []impl.Pair{{6, 14}}, 7, 10, 1},
		// the sides 5 and 6 of 7 both lead to 12, but by different faces
		{"4:012,023,123", []impl.Pair{{5, 13}, {6, 14}}, 7, 12, 2}, {"4:012,023,123", []impl.Pair{{5, 13}, {6, 14}}, 7, 3, 1},
		{"4:012,023,123", []impl.Pair{{5, 13}, {6, 14}}, 7, 9, 1}, {"4:0123", []impl.Pair{{5, 13}, {6, 14}}, 7, 12, 2},
		// ways that meet again, so that there are three and four
		{"5:0123,014,024,134", []impl.Pair{{3, 7}, {6, 14}, {12, 13}, {17, 21}}, 19, 5, 3},
		{"5:123,0124,134,0234", []impl.Pair{{6, 7}, {10, 26}, {12, 14}, {18, 19}, {20, 22}}, 28, 3, 4},
		{"4:0123", nil, 15, 7, 1}, {"4:0123", []impl.Pair{{7, 15}}, 14, 6, 1},
	} {
		if got, code := impl.WaysBetween(madeOf(t, c.text), c.list, c.b, c.a); code != impl.ErrNone || got != c.want {
			t.Errorf("WaysBetween(%q, %v, %d, %d) = %d, %d; want %d", c.text, c.list, c.b, c.a, got, code, c.want)
		}
	}
}

func TestCancelFacesExamples(t *testing.T) {
	for _, c := range []struct {
		text string
		list []impl.Pair
		b, a int64
		want []impl.Pair
		code int64
	}{
		{"2:01", nil, 3, 1, []impl.Pair{{1, 3}}, impl.ErrNone}, {"2:01", nil, 3, 2, []impl.Pair{{2, 3}}, impl.ErrNone},
		{"3:01,02,12", []impl.Pair{{1, 3}}, 6, 2, []impl.Pair{{1, 3}, {2, 6}}, impl.ErrNone},
		{"3:01,02,12", []impl.Pair{{1, 3}}, 5, 4, []impl.Pair{{1, 3}, {4, 5}}, impl.ErrNone},
		{"3:01,02,12", []impl.Pair{{1, 3}}, 5, 2, []impl.Pair{{1, 5}, {2, 3}}, impl.ErrNone},      // turned around
		{"3:01,02,12", []impl.Pair{{1, 3}, {2, 6}}, 5, 4, nil, impl.ErrState},                     // two ways
		{"3:01,02,12", nil, 5, 2, nil, impl.ErrState}, {"4:01,23", nil, 3, 4, nil, impl.ErrState}, // no way
		{"4:01,12,23", []impl.Pair{{1, 3}, {2, 6}}, 12, 4, []impl.Pair{{1, 3}, {2, 6}, {4, 12}}, impl.ErrNone},
		{"4:01,12,23,03", []impl.Pair{{1, 3}, {2, 6}}, 9, 4, []impl.Pair{{1, 9}, {2, 3}, {4, 6}}, impl.ErrNone}, // a way of three faces
		{"6:01,12,23,34,45,05", []impl.Pair{{1, 3}, {2, 6}, {4, 12}, {8, 24}}, 33, 16, []impl.Pair{{1, 33}, {2, 3}, {4, 6}, {8, 12}, {16, 24}}, impl.ErrNone},
		{"6:01,12,23,34,45,05", []impl.Pair{{1, 3}, {2, 6}, {4, 12}, {8, 24}}, 33, 32, []impl.Pair{{1, 3}, {2, 6}, {4, 12}, {8, 24}, {32, 33}}, impl.ErrNone},
		{"3:012", []impl.Pair{{1, 3}, {2, 6}}, 7, 5, []impl.Pair{{1, 3}, {2, 6}, {5, 7}}, impl.ErrNone},
		{"4:012,123", []impl.Pair{{6, 7}}, 14, 5, []impl.Pair{{5, 7}, {6, 14}}, impl.ErrNone}, // faces of dimensions 2 and 1
		{"4:012,123", []impl.Pair{{1, 3}, {6, 7}, {8, 10}}, 14, 5, []impl.Pair{{1, 3}, {5, 7}, {6, 14}, {8, 10}}, impl.ErrNone},
		{"4:012,023,123", []impl.Pair{{5, 13}, {6, 14}}, 7, 12, nil, impl.ErrState},
		{"4:0123", nil, 15, 11, []impl.Pair{{11, 15}}, impl.ErrNone},
	} {
		if got, code := impl.CancelFaces(madeOf(t, c.text), c.list, c.b, c.a); code != c.code || !slices.Equal(got, c.want) {
			t.Errorf("CancelFaces(%q, %v, %d, %d) = %v, %d; want %v, %d", c.text, c.list, c.b, c.a, got, code, c.want, c.code)
		}
	}
}

// Morse boundaries and numbers of holes.

// sameRows reports whether rows have the same numbers.
func sameRows(a, b [][]int64) bool { return slices.EqualFunc(a, b, slices.Equal) }

func TestMorseBoundariesAndHolesByDefinition(t *testing.T) {
	check := func(k impl.Complex, list []impl.Pair) {
		for p := int64(1); p <= 5; p++ {
			want := morseByRule(k, list, p)
			if got, code := impl.MorseBoundary(k, list, p); code != impl.ErrNone || !sameRows(got, want) {
				t.Fatalf("MorseBoundary(%v, %v, %d) = %v, %d; want %v", k, list, p, got, code, want)
			}
		}
		want := holesByRule(k, list)
		if got, code := impl.HolesOf(k, list); code != impl.ErrNone || !slices.Equal(got, want) {
			t.Fatalf("HolesOf(%v, %v) = %v, %d; want %v", k, list, got, code, want)
		}
	}
	acyclicSamples(t, check)
	windingSamples(t, check)
}

func TestMorseBoundaryExamples(t *testing.T) {
	sphere := []impl.Pair{{1, 3}, {2, 6}, {4, 12}, {5, 7}, {9, 11}, {10, 14}}
	for _, c := range []struct {
		text string
		list []impl.Pair
		p    int64
		want [][]int64
	}{
		{"1:", nil, 1, nil}, {"6:", nil, 1, nil}, {"6:", nil, 5, nil}, {"1:0", nil, 1, nil}, {"1:0", nil, 5, nil},
		{"2:01", nil, 1, [][]int64{{1, 1}}}, {"2:01", nil, 2, nil}, {"2:01", []impl.Pair{{1, 3}}, 1, nil},
		{"3:01,02,12", nil, 1, [][]int64{{1, 1, 0}, {1, 0, 1}, {0, 1, 1}}},
		{"3:01,02,12", []impl.Pair{{1, 3}}, 1, [][]int64{{1, 1}, {1, 1}}},
		{"3:01,02,12", []impl.Pair{{1, 3}, {2, 6}}, 1, [][]int64{{0}}}, // two ways
		{"3:01,02,12", []impl.Pair{{1, 3}, {2, 6}}, 2, nil}, {"3:01,02,12", []impl.Pair{{1, 3}, {2, 6}}, 5, nil},
		{"4:01,23", nil, 1, [][]int64{{1, 1, 0, 0}, {0, 0, 1, 1}}},
		{"3:012", []impl.Pair{{1, 3}, {2, 6}}, 2, [][]int64{{1}}}, {"3:012", []impl.Pair{{1, 3}, {2, 6}}, 1, [][]int64{{0}}},
		{"3:012", []impl.Pair{{1, 3}, {2, 6}, {5, 7}}, 1, nil}, {"3:012", []impl.Pair{{1, 3}, {2, 6}, {5, 7}}, 2, nil}, // all faces but one
		{"3:012", nil, 2, [][]int64{{1, 1, 1}}},
		{"4:012,013,023,123", sphere, 1, nil}, {"4:012,013,023,123", sphere, 2, [][]int64{{}}}, {"4:012,013,023,123", sphere, 3, nil}, // a row without numbers
		{"4:012,023,123", []impl.Pair{{5, 13}, {6, 14}}, 2, [][]int64{{1, 1, 1, 0}}}, // for 3, 9, 10 and 12
		{"5:123,0124,134,0234", []impl.Pair{{6, 7}, {10, 26}, {12, 14}, {18, 19}, {20, 22}}, 3, [][]int64{{0, 1, 0, 0}, {1, 1, 1, 1}}},
		// for 3, 5, 9, 17 and 24; many of the numbers of ways are even
		{"5:123,0124,134,0234", []impl.Pair{{6, 7}, {10, 26}, {12, 14}, {18, 19}, {20, 22}}, 2, [][]int64{{0, 0, 1, 1, 1}, {0, 0, 0, 0, 0}, {0, 0, 1, 1, 1}, {0, 0, 0, 0, 0}}},
		{"4:0123", nil, 3, [][]int64{{1, 1, 1, 1}}}, {"4:0123", nil, 4, nil},
		{"6:012345", nil, 5, [][]int64{{1, 1, 1, 1, 1, 1}}}, {"6:012345", []impl.Pair{{31, 63}}, 5, nil}, {"6:012345", []impl.Pair{{15, 31}}, 5, [][]int64{{1, 1, 1, 1, 1}}},
	} {
		if got, code := impl.MorseBoundary(madeOf(t, c.text), c.list, c.p); code != impl.ErrNone || !sameRows(got, c.want) {
			t.Errorf("MorseBoundary(%q, %v, %d) = %v, %d; want %v", c.text, c.list, c.p, got, code, c.want)
		}
	}
}

func TestHolesOfKnownComplexes(t *testing.T) {
	for _, c := range []struct {
		text string
		want []int64
	}{
		{"1:", nil}, {"6:", nil}, {"1:0", []int64{1}}, {"6:3", []int64{1}}, {"3:0,1,2", []int64{3}}, {"2:01", []int64{1, 0}},
		{"3:01,02,12", []int64{1, 1}}, {"4:01,12,23,03", []int64{1, 1}}, {"4:012,013,023,123", []int64{1, 0, 1}}, {"4:0123", []int64{1, 0, 0, 0}},
		{"5:01,02,12,03,04,34", []int64{1, 2}}, {"5:012,123,234,034,014", []int64{1, 1, 0}},
		{"6:012,023,034,045,015,124,235,134,245,135", []int64{1, 1, 1}}, {"6:012345", []int64{1, 0, 0, 0, 0, 0}},
		{"6:01234,01235,01245,01345,02345,12345", []int64{1, 0, 0, 0, 1}}, {"6:012,013,023,123,45", []int64{2, 0, 1}},
	} {
		k := madeOf(t, c.text)
		greedy, _ := impl.GreedyPairing(k)
		for _, list := range [][]impl.Pair{nil, greedy, greedy[:len(greedy)/2], greedy[len(greedy)/2:]} {
			if got, code := impl.HolesOf(k, list); code != impl.ErrNone || !slices.Equal(got, c.want) {
				t.Errorf("HolesOf(%q, %v) = %v, %d; want %v", c.text, list, got, code, c.want)
			}
		}
	}
}

// Chains and flows.

func TestIsChainOnAllShortLists(t *testing.T) {
	for _, k := range []impl.Complex{complexOn(1), complexOn(1, 1), complexOn(2, 1, 2, 3), complexOn(3, 1, 4, 5), fullComplex(3)} {
		checkIsChain(t, k, nil)
		checkIsChain(t, k, []int64{})
		for x := int64(-1); x <= 9; x++ {
			checkIsChain(t, k, []int64{x})
			for y := int64(-1); y <= 9; y++ {
				checkIsChain(t, k, []int64{x, y})
				for z := int64(-1); z <= 9; z++ {
					checkIsChain(t, k, []int64{x, y, z})
				}
			}
		}
	}
}

func checkIsChain(t *testing.T, k impl.Complex, list []int64) {
	t.Helper()
	want := isChainByRule(k, list)
	if got, code := impl.IsChain(k, list); got != want || code != impl.ErrNone {
		t.Fatalf("IsChain(%v, %v) = %v, %d; want %v", k, list, got, code, want)
	}
}

func TestIsChainOfChainsAndOfTheirMixtures(t *testing.T) {
	state := uint32(11)
	homologySamples(t, 12, func(k impl.Complex, d int64, chain []int64) {
		checkIsChain(t, k, chain)
		if len(chain) < 2 {
			return
		}
		i, j := scattered(&state, len(chain)), scattered(&state, len(chain))
		mixed := slices.Clone(chain)
		mixed[i], mixed[j] = mixed[j], mixed[i]
		checkIsChain(t, k, mixed)
		changed := slices.Clone(chain)
		changed[i] ^= 1 << scattered(&state, 6)
		checkIsChain(t, k, changed)
		checkIsChain(t, k, slices.Insert(slices.Clone(chain), i, chain[j]))
	})
}

func TestFlowsAndEndsByDefinition(t *testing.T) {
	seen := map[int]int{}
	chainSamples(t, func(k impl.Complex, list []impl.Pair, chain []int64) {
		flows := flowsByRule(t, k, list, chain)
		seen[min(len(flows), 5)]++
		end := flows[len(flows)-1]
		flow := flows[min(1, len(flows)-1)]
		if got, code := impl.FlowOf(k, list, chain); code != impl.ErrNone || !slices.Equal(got, flow) {
			t.Fatalf("FlowOf(%v, %v, %v) = %v, %d; want %v", k, list, chain, got, code, flow)
		}
		if got, code := impl.EndOfFlow(k, list, chain); code != impl.ErrNone || !slices.Equal(got, end) {
			t.Fatalf("EndOfFlow(%v, %v, %v) = %v, %d; want %v", k, list, chain, got, code, end)
		}
	})
	for steps := 1; steps <= 5; steps++ {
		if seen[steps] < 1000 {
			t.Errorf("the samples are too few: %v", seen)
		}
	}
}

func TestFlowsAndEndsOfAllChains(t *testing.T) {
	for _, k := range append(smallComplexes(3), named(t, "square"), named(t, "sphere"), madeOf(t, "4:012,23"), madeOf(t, "4:012,123")) {
		for _, list := range allPairings(k) {
			if len(list)%2 == 1 || len(facesOnCyclesOf(k, list)) > 0 {
				continue
			}
			for d := range topDimension(k) + 1 {
				for _, chain := range allChains(k, d) {
					flow, one := impl.FlowOf(k, list, chain)
					end, two := impl.EndOfFlow(k, list, chain)
					if one != impl.ErrNone || two != impl.ErrNone || !slices.Equal(flow, flowByRule(k, list, chain)) || !slices.Equal(end, endByRule(t, k, list, chain)) {
						t.Fatalf("%v, %v: the chain %v flows to %v, %d, and ends at %v, %d", k, list, chain, flow, one, end, two)
					}
				}
			}
		}
	}
}

func TestCriticalChainByDefinition(t *testing.T) {
	check := func(k impl.Complex, list []impl.Pair) {
		for b := int64(-1); b <= 1<<k.Vertices; b++ {
			var want []int64
			wantCode := int64(impl.ErrRange)
			if isCriticalByRule(k, list, b) {
				want, wantCode = endByRule(t, k, list, []int64{b}), impl.ErrNone
			}
			if got, code := impl.CriticalChain(k, list, b); code != wantCode || !slices.Equal(got, want) {
				t.Fatalf("CriticalChain(%v, %v, %d) = %v, %d; want %v, %d", k, list, b, got, code, want, wantCode)
			}
		}
	}
	acyclicSamples(t, check)
	windingSamples(t, check)
}

func TestFlowExamples(t *testing.T) {
	for _, c := range []struct {
		text             string
		list             []impl.Pair
		chain, flow, end []int64
	}{
		{"1:", nil, nil, nil, nil}, {"6:", nil, []int64{}, nil, nil}, {"3:01,02,12", []impl.Pair{{1, 3}, {2, 6}}, nil, nil, nil}, // empty chains
		{"1:0", nil, []int64{1}, []int64{1}, []int64{1}}, {"3:01,02,12", nil, []int64{3, 5}, []int64{3, 5}, []int64{3, 5}}, // nothing flows
		{"2:01", []impl.Pair{{1, 3}}, []int64{1}, []int64{2}, []int64{2}}, {"2:01", []impl.Pair{{1, 3}}, []int64{2}, []int64{2}, []int64{2}},
		{"2:01", []impl.Pair{{1, 3}}, []int64{1, 2}, nil, nil}, {"2:01", []impl.Pair{{1, 3}}, []int64{3}, nil, nil}, // empty ends
		{"3:01,02,12", []impl.Pair{{1, 3}, {2, 6}}, []int64{1}, []int64{2}, []int64{4}},
		{"3:01,02,12", []impl.Pair{{1, 3}, {2, 6}}, []int64{1, 2}, []int64{2, 4}, nil},
		{"3:01,02,12", []impl.Pair{{1, 3}, {2, 6}}, []int64{1, 2, 4}, []int64{2}, []int64{4}},
		{"3:01,02,12", []impl.Pair{{1, 3}, {2, 6}}, []int64{4}, []int64{4}, []int64{4}}, // a critical vertex
		{"3:01,02,12", []impl.Pair{{1, 3}, {2, 6}}, []int64{5}, []int64{3, 5}, []int64{3, 5, 6}},
		{"3:01,02,12", []impl.Pair{{1, 3}, {2, 6}}, []int64{3, 5, 6}, []int64{3, 5, 6}, []int64{3, 5, 6}}, // a cycle
		{"3:01,02,12", []impl.Pair{{1, 3}, {2, 6}}, []int64{3}, []int64{6}, nil}, {"3:01,02,12", []impl.Pair{{1, 3}, {2, 6}}, []int64{6}, nil, nil},
		{"3:012", []impl.Pair{{3, 7}}, []int64{3}, []int64{5, 6}, []int64{5, 6}}, {"3:012", []impl.Pair{{3, 7}}, []int64{7}, nil, nil},
		{"3:012", []impl.Pair{{3, 7}}, []int64{5}, []int64{5}, []int64{5}}, {"3:012", []impl.Pair{{3, 7}}, []int64{3, 5, 6}, nil, nil},
		{"3:012", []impl.Pair{{1, 3}, {2, 6}, {5, 7}}, []int64{5}, []int64{6}, nil}, // both kinds of pushes
		{"4:012,123", []impl.Pair{{6, 7}}, []int64{14}, []int64{7, 14}, []int64{7, 14}},
		{"4:012,123", []impl.Pair{{6, 7}}, []int64{7, 14}, []int64{7, 14}, []int64{7, 14}}, // 6 is in two boundaries
	} {
		k := madeOf(t, c.text)
		if got, code := impl.FlowOf(k, c.list, c.chain); code != impl.ErrNone || !slices.Equal(got, c.flow) {
			t.Errorf("FlowOf(%q, %v, %v) = %v, %d; want %v", c.text, c.list, c.chain, got, code, c.flow)
		}
		if got, code := impl.EndOfFlow(k, c.list, c.chain); code != impl.ErrNone || !slices.Equal(got, c.end) {
			t.Errorf("EndOfFlow(%q, %v, %v) = %v, %d; want %v", c.text, c.list, c.chain, got, code, c.end)
		}
	}
}

func TestCriticalChainExamples(t *testing.T) {
	for _, c := range []struct {
		text string
		list []impl.Pair
		b    int64
		want []int64
	}{
		{"1:0", nil, 1, []int64{1}}, {"2:01", nil, 3, []int64{3}}, {"2:01", []impl.Pair{{1, 3}}, 2, []int64{2}},
		{"3:01,02,12", []impl.Pair{{1, 3}, {2, 6}}, 5, []int64{3, 5, 6}}, {"3:01,02,12", []impl.Pair{{1, 3}, {2, 6}}, 4, []int64{4}},
		{"3:012", []impl.Pair{{1, 3}, {2, 6}}, 7, []int64{7}}, {"4:012,123", []impl.Pair{{6, 7}}, 14, []int64{7, 14}},
		{"4:012,123", []impl.Pair{{6, 7}}, 5, []int64{5}},
		{"4:012,013,023,123", []impl.Pair{{1, 3}, {2, 6}, {4, 12}, {5, 7}, {9, 11}, {10, 14}}, 13, []int64{7, 11, 13, 14}}, // the whole sphere
		{"6:012345", nil, 63, []int64{63}},
	} {
		if got, code := impl.CriticalChain(madeOf(t, c.text), c.list, c.b); code != impl.ErrNone || !slices.Equal(got, c.want) {
			t.Errorf("CriticalChain(%q, %v, %d) = %v, %d; want %v", c.text, c.list, c.b, got, code, c.want)
		}
	}
}
