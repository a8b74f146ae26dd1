package tests

import (
	"slices"
	"testing"

	"loop.example/g01348/impl"
)

// Promise 2.

func TestCriticalFacesAndPairsHaveAllFaces(t *testing.T) {
	samplePairings(t, func(k impl.Complex, list []impl.Pair) {
		faces, code := impl.CriticalFaces(k, list)
		if code != impl.ErrNone || !slices.IsSorted(faces) {
			t.Fatalf("CriticalFaces(%v, %v) = %v, %d", k, list, faces, code)
		}
		for _, p := range list {
			faces = append(faces, p[0], p[1])
		}
		slices.Sort(faces)
		if !slices.Equal(faces, k.Faces) {
			t.Fatalf("critical faces and pairs %v of %v have %v", list, k, faces)
		}
	})
}

func TestOrdersHaveFacesBehindThoseInThem(t *testing.T) {
	acyclicSamples(t, func(k impl.Complex, list []impl.Pair) {
		order, code := impl.OrderOfPairing(k, list)
		if code != impl.ErrNone {
			t.Fatalf("OrderOfPairing(%v, %v): code %d", k, list, code)
		}
		for place, face := range order {
			for _, later := range order[place+1:] {
				if isInside(later, face) {
					t.Fatalf("OrderOfPairing(%v, %v) = %v has %d behind %d", k, list, order, later, face)
				}
			}
		}
		if sorted := slices.Sorted(slices.Values(order)); !slices.Equal(sorted, k.Faces) {
			t.Fatalf("OrderOfPairing(%v, %v) = %v has not all faces", k, list, order)
		}
	})
}

func TestGreedyPairingsAreAcyclic(t *testing.T) {
	for _, k := range append(sampleComplexes(t), someComplexes(t, 6, 200)...) {
		list, one := impl.GreedyPairing(k)
		pairing, two := impl.IsPairing(k, list)
		acyclic, three := impl.IsAcyclicPairing(k, list)
		if one != impl.ErrNone || two != impl.ErrNone || three != impl.ErrNone || !pairing || !acyclic || len(facesOnCyclesOf(k, list)) > 0 {
			t.Fatalf("GreedyPairing(%v) = %v: %v, %v, %d, %d, %d", k, list, pairing, acyclic, one, two, three)
		}
	}
}

func TestPairingsWithoutFacesOnCyclesAreAcyclic(t *testing.T) {
	seen := map[bool]int{}
	samplePairings(t, func(k impl.Complex, list []impl.Pair) {
		acyclic, one := impl.IsAcyclicPairing(k, list)
		faces, two := impl.FacesOnCycles(k, list)
		if one != impl.ErrNone || two != impl.ErrNone || acyclic != (len(faces) == 0) {
			t.Fatalf("pairing %v of %v: acyclic %v, faces on cycles %v, codes %d, %d", list, k, acyclic, faces, one, two)
		}
		seen[acyclic]++
	})
	if seen[true] < 1000 || seen[false] < 200 {
		t.Errorf("the samples are too few: %v", seen)
	}
}

// Pairings and critical faces.

func TestIsPairingOnAllShortLists(t *testing.T) {
	for _, k := range []impl.Complex{complexOn(1, 1), complexOn(2), complexOn(2, 1, 2, 3), parsed(t, "3:01,2"), fullComplex(3)} {
		var pairs []impl.Pair
		for low := int64(0); low < 9; low++ {
			for high := int64(0); high < 9; high++ {
				pairs = append(pairs, impl.Pair{low, high})
			}
		}
		checkIsPairing(t, k, nil)
		for _, p := range pairs {
			checkIsPairing(t, k, []impl.Pair{p})
			for _, q := range pairs {
				checkIsPairing(t, k, []impl.Pair{p, q})
			}
		}
	}
}

func checkIsPairing(t *testing.T, k impl.Complex, list []impl.Pair) {
	t.Helper()
	want := isPairingOf(k, list)
	if got, code := impl.IsPairing(k, list); got != want || code != impl.ErrNone {
		t.Fatalf("IsPairing(%v, %v) = %v, %d; want %v", k, list, got, code, want)
	}
}

func TestIsPairingOfSamplesAndOfTheirMixtures(t *testing.T) {
	state := uint32(7)
	samplePairings(t, func(k impl.Complex, list []impl.Pair) {
		checkIsPairing(t, k, list)
		if len(list) < 2 {
			return
		}
		mixed := slices.Clone(list)
		i, j := scattered(&state, len(list)), scattered(&state, len(list))
		mixed[i], mixed[j] = mixed[j], mixed[i]
		checkIsPairing(t, k, mixed)
		changed := slices.Clone(list)
		changed[i][1] ^= 1 << scattered(&state, 6)
		checkIsPairing(t, k, changed)
		checkIsPairing(t, k, slices.Insert(slices.Clone(list), i, list[j]))
	})
}

func TestCriticalFacesAndNumbersByDefinition(t *testing.T) {
	samplePairings(t, func(k impl.Complex, list []impl.Pair) {
		var want, numbers []int64
		for _, face := range k.Faces {
			for int64(len(numbers)) < sizeOf(face) {
				numbers = append(numbers, 0)
			}
			if len(groupOf(list, face)) == 1 {
				want = append(want, face)
				numbers[sizeOf(face)-1]++
			}
		}
		if got, code := impl.CriticalFaces(k, list); code != impl.ErrNone || !slices.Equal(got, want) {
			t.Fatalf("CriticalFaces(%v, %v) = %v, %d; want %v", k, list, got, code, want)
		}
		if got, code := impl.CriticalNumbers(k, list); code != impl.ErrNone || !slices.Equal(got, numbers) {
			t.Fatalf("CriticalNumbers(%v, %v) = %v, %d; want %v", k, list, got, code, numbers)
		}
	})
}

func TestCriticalNumbersAtTheEdges(t *testing.T) {
	circle, around, _ := circlePairings()
	for _, c := range []struct {
		k              impl.Complex
		list           []impl.Pair
		faces, numbers []int64
	}{
		{complexOn(1), nil, nil, nil},
		{complexOn(6), []impl.Pair{}, nil, nil},
		{complexOn(1, 1), nil, []int64{1}, []int64{1}},
		{complexOn(2, 1, 2, 3), []impl.Pair{{1, 3}}, []int64{2}, []int64{1, 0}},
		{complexOn(2, 1, 2, 3), []impl.Pair{{2, 3}}, []int64{1}, []int64{1, 0}},
		{circle, around, nil, []int64{0, 0}},
		{fullComplex(3), []impl.Pair{{1, 3}, {2, 6}, {5, 7}}, []int64{4}, []int64{1, 0, 0}},
		{fullComplex(6), nil, fullComplex(6).Faces, []int64{6, 15, 20, 15, 6, 1}},
	} {
		faces, one := impl.CriticalFaces(c.k, c.list)
		numbers, two := impl.CriticalNumbers(c.k, c.list)
		if one != impl.ErrNone || two != impl.ErrNone || !slices.Equal(faces, c.faces) || !slices.Equal(numbers, c.numbers) {
			t.Errorf("pairing %v of %v: %v, %v, %d, %d", c.list, c.k, faces, numbers, one, two)
		}
	}
}

// Cycles and gradient ways.

func TestFacesOnCyclesByDefinition(t *testing.T) {
	samplePairings(t, func(k impl.Complex, list []impl.Pair) {
		want := facesOnCyclesOf(k, list)
		if got, code := impl.FacesOnCycles(k, list); code != impl.ErrNone || !slices.Equal(got, want) {
			t.Fatalf("FacesOnCycles(%v, %v) = %v, %d; want %v", k, list, got, code, want)
		}
		if got, code := impl.IsAcyclicPairing(k, list); code != impl.ErrNone || got != (len(want) == 0) {
			t.Fatalf("IsAcyclicPairing(%v, %v) = %v, %d; faces on cycles %v", k, list, got, code, want)
		}
	})
}

// TestFacesOnCyclesAreNotThoseThatOnlyLeadToThem has a cycle of vertices, a way that leads to it,
// and a critical edge.
func TestFacesOnCyclesAreNotThoseThatOnlyLeadToThem(t *testing.T) {
	k := parsed(t, "6:01,02,12,23,34,5")
	list := []impl.Pair{{1, 3}, {2, 6}, {4, 5}, {8, 12}, {16, 24}}
	acyclic, one := impl.IsAcyclicPairing(k, list)
	cycles, two := impl.FacesOnCycles(k, list)
	reached, three := impl.FacesReached(k, list, 16)
	if acyclic || !slices.Equal(cycles, []int64{1, 2, 4}) || !slices.Equal(reached, []int64{1, 2, 4, 8, 16}) || one != impl.ErrNone || two != impl.ErrNone || three != impl.ErrNone {
		t.Errorf("%v, %v, %v, %d, %d, %d", acyclic, cycles, reached, one, two, three)
	}
}

// TestCyclesOfEdges has a cycle of edges around the triangles of three vertices with a fourth one.
func TestCyclesOfEdges(t *testing.T) {
	k := parsed(t, "4:012,013,023")
	list := []impl.Pair{{3, 7}, {5, 13}, {9, 11}}
	acyclic, one := impl.IsAcyclicPairing(k, list)
	cycles, two := impl.FacesOnCycles(k, list)
	reached, three := impl.FacesReached(k, list, 3)
	if acyclic || !slices.Equal(cycles, []int64{3, 5, 9}) || !slices.Equal(reached, []int64{3, 5, 6, 9, 10, 12}) || one != impl.ErrNone || two != impl.ErrNone || three != impl.ErrNone {
		t.Errorf("%v, %v, %v, %d, %d, %d", acyclic, cycles, reached, one, two, three)
	}
}

func TestFacesReachedByDefinition(t *testing.T) {
	samplePairings(t, func(k impl.Complex, list []impl.Pair) {
		reach := reachedByWays(k, list)
		for _, a := range k.Faces {
			want := chosen(k.Vertices, func(face int64) bool { return face == a || reach[a][face] })
			if got, code := impl.FacesReached(k, list, a); code != impl.ErrNone || !slices.Equal(got, want) {
				t.Fatalf("FacesReached(%v, %v, %d) = %v, %d; want %v", k, list, a, got, code, want)
			}
		}
	})
}

func TestCountGradientWaysByWalking(t *testing.T) {
	most := int64(0)
	for _, k := range append(smallComplexes(3), named(t, "octahedron"), named(t, "projective"), fullComplex(4), fullComplex(5)) {
		for _, list := range somePairings(k, 8) {
			if len(facesOnCyclesOf(k, list)) > 0 {
				continue
			}
			for _, a := range k.Faces {
				for _, b := range k.Faces {
					want := waysByWalking(k, list, a, b)
					most = max(most, want)
					if got, code := impl.CountGradientWays(k, list, a, b); code != impl.ErrNone || got != want {
						t.Fatalf("CountGradientWays(%v, %v, %d, %d) = %d, %d; want %d", k, list, a, b, got, code, want)
					}
				}
			}
		}
	}
	if most < 2 {
		t.Errorf("no sample has two ways between the same faces")
	}
}

// TestCountGradientWaysThatPartAndMeet has two ways from the edge 01 to the edge 24: one by the edge
// 02, and one by the edge 12.
func TestCountGradientWaysThatPartAndMeet(t *testing.T) {
	k := parsed(t, "5:012,024,124")
	list := []impl.Pair{{3, 7}, {5, 21}, {6, 22}}
	for _, c := range []struct{ a, b, want int64 }{
		{3, 20, 2}, {3, 17, 1}, {3, 18, 1}, {3, 5, 1}, {3, 6, 1}, {3, 3, 1}, {5, 20, 1}, {6, 20, 1}, {5, 6, 0}, {20, 3, 0},
		{20, 20, 1}, {7, 7, 1}, {3, 7, 0}, {7, 3, 0}, {1, 2, 0}, {1, 1, 1}, {3, 1, 0}, {7, 21, 0},
	} {
		if got, code := impl.CountGradientWays(k, list, c.a, c.b); code != impl.ErrNone || got != c.want {
			t.Errorf("CountGradientWays(%d, %d) = %d, %d; want %d", c.a, c.b, got, code, c.want)
		}
	}
}

// Orders, pairs put in, and greedy pairings.

func TestOrderOfPairingByItsRule(t *testing.T) {
	acyclicSamples(t, func(k impl.Complex, list []impl.Pair) {
		want := orderByRule(t, k, list)
		if got, code := impl.OrderOfPairing(k, list); code != impl.ErrNone || !slices.Equal(got, want) {
			t.Fatalf("OrderOfPairing(%v, %v) = %v, %d; want %v", k, list, got, code, want)
		}
	})
}

func TestOrderOfPairingExamples(t *testing.T) {
	circle, around, some := circlePairings()
	for _, c := range []struct {
		k    impl.Complex
		list []impl.Pair
		want []int64
	}{
		{complexOn(6), nil, nil},
		{complexOn(2, 1, 2, 3), nil, []int64{1, 2, 3}},
		{complexOn(2, 1, 2, 3), []impl.Pair{{1, 3}}, []int64{2, 1, 3}},
		{complexOn(2, 1, 2, 3), []impl.Pair{{2, 3}}, []int64{1, 2, 3}},
		{circle, some, []int64{4, 2, 6, 1, 3, 5}},
		{circle, nil, circle.Faces},
		{fullComplex(3), []impl.Pair{{1, 3}, {2, 6}, {5, 7}}, []int64{4, 2, 6, 1, 3, 5, 7}},
	} {
		if got, code := impl.OrderOfPairing(c.k, c.list); code != impl.ErrNone || !slices.Equal(got, c.want) {
			t.Errorf("OrderOfPairing(%v, %v) = %v, %d; want %v", c.k, c.list, got, code, c.want)
		}
	}
	if got, code := impl.OrderOfPairing(circle, around); code != impl.ErrState || len(got) > 0 {
		t.Errorf("OrderOfPairing = %v, %d", got, code)
	}
}

func TestAddPairByDefinition(t *testing.T) {
	seen := map[int64]int{}
	check := func(k impl.Complex, list []impl.Pair) {
		for _, p := range allPairs(k) {
			want, wantCode := insertPair(list, p), int64(impl.ErrNone)
			if meets(list, p) || len(facesOnCyclesOf(k, want)) > 0 {
				want, wantCode = nil, impl.ErrState
			}
			seen[wantCode]++
			if got, code := impl.AddPair(k, list, p); code != wantCode || !slices.Equal(got, want) {
				t.Fatalf("AddPair(%v, %v, %v) = %v, %d; want %v, %d", k, list, p, got, code, want, wantCode)
			}
		}
	}
	for _, k := range append(smallComplexes(3), named(t, "square"), parsed(t, "4:012,123")) {
		for _, list := range allPairings(k) {
			check(k, list)
		}
	}
	for _, k := range []impl.Complex{named(t, "projective"), named(t, "octahedron"), fullComplex(5)} {
		for _, list := range somePairings(k, 6) {
			check(k, list)
		}
	}
	if seen[impl.ErrNone] < 200 || seen[impl.ErrState] < 200 {
		t.Errorf("the samples are too few: %v", seen)
	}
}

func TestAddPairExamples(t *testing.T) {
	circle, around, some := circlePairings()
	for _, c := range []struct {
		list []impl.Pair
		p    impl.Pair
		want []impl.Pair
		code int64
	}{
		{nil, impl.Pair{1, 3}, []impl.Pair{{1, 3}}, impl.ErrNone},
		{[]impl.Pair{{2, 6}}, impl.Pair{1, 3}, some, impl.ErrNone},
		{[]impl.Pair{{1, 3}}, impl.Pair{2, 6}, some, impl.ErrNone},
		{[]impl.Pair{{1, 3}, {4, 6}}, impl.Pair{2, 3}, nil, impl.ErrState}, // the high face is taken
		{[]impl.Pair{{1, 3}, {4, 6}}, impl.Pair{4, 5}, nil, impl.ErrState}, // the low face is taken
		{some, impl.Pair{1, 3}, nil, impl.ErrState},                        // it is in the list by now
		{some, impl.Pair{4, 5}, nil, impl.ErrState},                        // it makes a cycle
		{around, impl.Pair{4, 5}, nil, impl.ErrState},
		{around, impl.Pair{1, 5}, nil, impl.ErrState},
		{around, impl.Pair{1, 6}, nil, impl.ErrRange}, // no pair comes before a cycle
	} {
		if got, code := impl.AddPair(circle, c.list, c.p); code != c.code || !slices.Equal(got, c.want) {
			t.Errorf("AddPair(%v, %v) = %v, %d; want %v, %d", c.list, c.p, got, code, c.want, c.code)
		}
	}
	// The list has a cycle, and the pair is far from it.
	k := parsed(t, "5:01,02,12,34")
	if got, code := impl.AddPair(k, around, impl.Pair{8, 24}); code != impl.ErrState || len(got) > 0 {
		t.Errorf("AddPair = %v, %d", got, code)
	}
}

func TestGreedyPairingByItsRule(t *testing.T) {
	for _, k := range sampleComplexes(t) {
		var want []impl.Pair
		for _, p := range allPairs(k) {
			longer := insertPair(want, p)
			if !meets(want, p) && len(facesOnCyclesOf(k, longer)) == 0 {
				want = longer
			}
		}
		if got, code := impl.GreedyPairing(k); code != impl.ErrNone || !slices.Equal(got, want) {
			t.Fatalf("GreedyPairing(%v) = %v, %d; want %v", k, got, code, want)
		}
	}
}

func TestGreedyPairingExamples(t *testing.T) {
	circle, _, some := circlePairings()
	for _, c := range []struct {
		k    impl.Complex
		want []impl.Pair
	}{
		{complexOn(1), nil}, {complexOn(6), nil}, {complexOn(1, 1), nil}, {complexOn(3, 1, 2, 4), nil},
		{complexOn(2, 1, 2, 3), []impl.Pair{{1, 3}}}, {circle, some},
		{fullComplex(3), []impl.Pair{{1, 3}, {2, 6}, {5, 7}}},
	} {
		if got, code := impl.GreedyPairing(c.k); code != impl.ErrNone || !slices.Equal(got, c.want) {
			t.Errorf("GreedyPairing(%v) = %v, %d; want %v", c.k, got, code, c.want)
		}
	}
}
