package tests

import (
	"slices"
	"testing"

	"loop.example/g01348/impl"
)

// Promise 3.

func TestBoundariesAreCycles(t *testing.T) {
	homologySamples(t, 64, func(k impl.Complex, d int64, chain []int64) {
		bound, one := impl.BoundaryOf(k, chain)
		cycle, two := impl.IsCycle(k, bound)
		again, three := impl.BoundaryOf(k, bound)
		bounds, four := impl.Bounds(k, bound)
		if one != impl.ErrNone || two != impl.ErrNone || three != impl.ErrNone || four != impl.ErrNone {
			t.Fatalf("%v of %v: codes %d, %d, %d, %d", chain, k, one, two, three, four)
		}
		if !cycle || len(again) > 0 || !bounds {
			t.Fatalf("%v of %v has the boundary %v: cycle %v, boundary %v, bounds %v", chain, k, bound, cycle, again, bounds)
		}
	})
}

func TestBettiNumbersGiveTheEulerNumber(t *testing.T) {
	for _, k := range append(homologyComplexes(t), allComplexes(5)...) {
		euler, code := impl.EulerNumber(k)
		if code != impl.ErrNone {
			t.Fatalf("EulerNumber(%v): code %d", k, code)
		}
		for _, p := range []int64{2, 3} {
			numbers, code := impl.BettiNumbers(k, p)
			sum, sign := int64(0), int64(1)
			for _, number := range numbers {
				sum, sign = sum+sign*number, -sign
			}
			if code != impl.ErrNone || sum != euler || slices.ContainsFunc(numbers, func(number int64) bool { return number < 0 }) {
				t.Fatalf("BettiNumbers(%v, %d) = %v, %d; the Euler number is %d", k, p, numbers, code, euler)
			}
		}
	}
}

func TestBettiNumbersOfZeroAreNumbersOfComponents(t *testing.T) {
	for _, k := range append(homologyComplexes(t), allComplexes(5)...) {
		components, code := impl.ComponentsOf(k)
		if code != impl.ErrNone {
			t.Fatalf("ComponentsOf(%v): code %d", k, code)
		}
		for _, p := range []int64{2, 3} {
			numbers, code := impl.BettiNumbers(k, p)
			if code != impl.ErrNone || int64(len(numbers)) != topDimension(k)+1 {
				t.Fatalf("BettiNumbers(%v, %d) = %v, %d", k, p, numbers, code)
			}
			if len(numbers) > 0 && numbers[0] != int64(len(components)) {
				t.Fatalf("BettiNumbers(%v, %d) = %v; components %v", k, p, numbers, components)
			}
		}
	}
}

func TestShortestCirclesAreCyclesThatDoNotBound(t *testing.T) {
	found := 0
	for _, k := range append(homologyComplexes(t), allComplexes(5)...) {
		circle, code := impl.ShortestCircle(k)
		numbers, _ := impl.BettiNumbers(k, 2)
		if none := len(numbers) < 2 || numbers[1] == 0; none != (code == impl.ErrNotFound) || none != (len(circle) == 0) {
			t.Fatalf("ShortestCircle(%v) = %v, %d; Betti numbers %v", k, circle, code, numbers)
		}
		if code == impl.ErrNotFound {
			continue
		}
		found++
		cycle, one := impl.IsCycle(k, circle)
		bounds, two := impl.Bounds(k, circle)
		if code != impl.ErrNone || one != impl.ErrNone || two != impl.ErrNone || !cycle || bounds {
			t.Fatalf("ShortestCircle(%v) = %v, %d: %v, %v", k, circle, code, cycle, bounds)
		}
	}
	if found < 1000 {
		t.Errorf("only %d circles", found)
	}
}

// Signs, ranks and Betti numbers.

func TestSignsOfByDefinition(t *testing.T) {
	for _, k := range homologyComplexes(t) {
		for _, f := range k.Faces {
			var want []int64
			for _, side := range k.Faces {
				if sign := signOf(side, f); sign != 0 {
					want = append(want, sign)
				}
			}
			if got, code := impl.SignsOf(k, f); code != impl.ErrNone || !slices.Equal(got, want) {
				t.Fatalf("SignsOf(%v, %d) = %v, %d; want %v", k, f, got, code, want)
			}
		}
	}
}

func TestSignsOfOfEachDimension(t *testing.T) {
	for f, want := range map[int64][]int64{
		1: nil, 32: nil, 3: {-1, 1}, 33: {-1, 1}, 7: {1, -1, 1}, 52: {1, -1, 1}, 15: {-1, 1, -1, 1}, 47: {1, -1, 1, -1, 1}, 63: {-1, 1, -1, 1, -1, 1},
	} {
		if got, code := impl.SignsOf(fullComplex(6), f); code != impl.ErrNone || !slices.Equal(got, want) {
			t.Errorf("SignsOf(%d) = %v, %d; want %v", f, got, code, want)
		}
	}
}

func TestRanksAndBettiNumbersByDefinition(t *testing.T) {
	for _, k := range homologyComplexes(t) {
		for _, p := range []int64{2, 3} {
			for d, want := range ranksOf(k, p) {
				if got, code := impl.RankOf(k, int64(d), p); code != impl.ErrNone || got != want {
					t.Fatalf("RankOf(%v, %d, %d) = %d, %d; want %d", k, d, p, got, code, want)
				}
			}
			want := bettiOf(k, p)
			if got, code := impl.BettiNumbers(k, p); code != impl.ErrNone || !slices.Equal(got, want) {
				t.Fatalf("BettiNumbers(%v, %d) = %v, %d; want %v", k, p, got, code, want)
			}
			acyclic := len(want) > 0 && want[0] == 1 && slices.Max(append(want[1:], 0)) == 0
			if got, code := impl.IsAcyclicComplex(k, p); code != impl.ErrNone || got != acyclic {
				t.Fatalf("IsAcyclicComplex(%v, %d) = %v, %d; want %v", k, p, got, code, acyclic)
			}
		}
	}
}

func TestRankOfAtBothEnds(t *testing.T) {
	for _, c := range []struct {
		k          impl.Complex
		two, three []int64
	}{
		{complexOn(1), []int64{0, 0, 0, 0, 0, 0, 0}, []int64{0, 0, 0, 0, 0, 0, 0}},
		{complexOn(6), []int64{0, 0, 0, 0, 0, 0, 0}, []int64{0, 0, 0, 0, 0, 0, 0}},
		{complexOn(1, 1), []int64{0, 0, 0, 0, 0, 0, 0}, []int64{0, 0, 0, 0, 0, 0, 0}},
		{complexOn(3, 2, 4, 6), []int64{0, 1, 0, 0, 0, 0, 0}, []int64{0, 1, 0, 0, 0, 0, 0}},
		{fullComplex(6), []int64{0, 5, 10, 10, 5, 1, 0}, []int64{0, 5, 10, 10, 5, 1, 0}},
		{named(t, "projective"), []int64{0, 5, 9, 0, 0, 0, 0}, []int64{0, 5, 10, 0, 0, 0, 0}},
	} {
		for d := range c.two {
			a, one := impl.RankOf(c.k, int64(d), 2)
			b, two := impl.RankOf(c.k, int64(d), 3)
			if a != c.two[d] || b != c.three[d] || one != impl.ErrNone || two != impl.ErrNone {
				t.Errorf("RankOf(%v, %d) = %d, %d and %d, %d", c.k, d, a, one, b, two)
			}
		}
	}
}

func TestBettiNumbersOfKnownComplexes(t *testing.T) {
	for text, want := range map[string][2][]int64{
		"1:": {}, "6:": {}, "1:0": {{1}, {1}}, "6:5": {{1}, {1}}, "6:0,1,2,3,4,5": {{6}, {6}}, "6:012345": {{1, 0, 0, 0, 0, 0}, {1, 0, 0, 0, 0, 0}},
		"4:01,12,03,23": {{1, 1}, {1, 1}}, "6:05,14,23": {{3, 0}, {3, 0}}, "6:01,02,12,34,35,45": {{2, 2}, {2, 2}},
		"5:012,013,023,123,04,14": {{1, 1, 1}, {1, 1, 1}}, "6:012,013,023,123,45": {{2, 0, 1}, {2, 0, 1}},
		"6:012,023,124,034,134,015,135,235,045,245": {{1, 1, 1}, {1, 0, 0}},
	} {
		two, one := impl.BettiNumbers(madeOf(t, text), 2)
		three, other := impl.BettiNumbers(madeOf(t, text), 3)
		if one != impl.ErrNone || other != impl.ErrNone || !slices.Equal(two, want[0]) || !slices.Equal(three, want[1]) {
			t.Errorf("BettiNumbers of %q: %v and %v, codes %d, %d", text, two, three, one, other)
		}
	}
}

func TestIsAcyclicComplexAtTheEdges(t *testing.T) {
	for _, c := range []struct {
		k          impl.Complex
		two, three bool
	}{
		{complexOn(1), false, false}, {complexOn(6), false, false}, {complexOn(1, 1), true, true}, {complexOn(6, 32), true, true},
		{complexOn(2, 1, 2), false, false}, {complexOn(2, 1, 2, 3), true, true}, {fullComplex(6), true, true},
		{named(t, "circle"), false, false}, {named(t, "sphere"), false, false}, {named(t, "tree"), true, true},
		{named(t, "projective"), false, true}, {madeOf(t, "6:012,34"), false, false}, {skeleton(6, 4), false, false},
	} {
		two, one := impl.IsAcyclicComplex(c.k, 2)
		three, other := impl.IsAcyclicComplex(c.k, 3)
		if two != c.two || three != c.three || one != impl.ErrNone || other != impl.ErrNone {
			t.Errorf("IsAcyclicComplex(%v) = %v, %d and %v, %d", c.k, two, one, three, other)
		}
	}
}

// Chains.

func TestBoundariesAndCyclesByDefinition(t *testing.T) {
	homologySamples(t, 100, func(k impl.Complex, d int64, chain []int64) {
		want := chainOf(boundaryWord(k, chain))
		if got, code := impl.BoundaryOf(k, chain); code != impl.ErrNone || !slices.Equal(got, want) {
			t.Fatalf("BoundaryOf(%v, %v) = %v, %d; want %v", k, chain, got, code, want)
		}
		if got, code := impl.IsCycle(k, chain); code != impl.ErrNone || got != (len(want) == 0) {
			t.Fatalf("IsCycle(%v, %v) = %v, %d; the boundary is %v", k, chain, got, code, want)
		}
	})
}

// TestBoundsByDefinition also looks at each chain that bounds, as few of the samples do, and at its
// neighbours.
func TestBoundsByDefinition(t *testing.T) {
	seen := map[bool]int{}
	for _, k := range homologyComplexes(t) {
		for d := range topDimension(k) + 1 {
			bounding := boundingWords(k, d)
			chains := someChains(k, d, 64)
			for w := range bounding {
				chains = append(chains, chainOf(w), chainOf(w^wordOf(facesAt(k, d)[:1])))
			}
			for _, chain := range chains[:min(len(chains), 600)] {
				want := bounding[wordOf(chain)]
				seen[want]++
				if got, code := impl.Bounds(k, chain); code != impl.ErrNone || got != want {
					t.Fatalf("Bounds(%v, %v) = %v, %d; want %v", k, chain, got, code, want)
				}
			}
		}
	}
	if seen[true] < 1000 || seen[false] < 1000 {
		t.Errorf("the samples are too few: %v", seen)
	}
}

func TestChainsAtTheEdges(t *testing.T) {
	parts := madeOf(t, "6:012,35,4")
	projective := named(t, "projective")
	for _, c := range []struct {
		k             impl.Complex
		chain, want   []int64
		cycle, bounds bool
	}{
		{complexOn(1), nil, nil, true, true}, {complexOn(6), []int64{}, nil, true, true}, {fullComplex(6), nil, nil, true, true},
		{complexOn(1, 1), []int64{1}, nil, true, false}, {complexOn(6, 32), []int64{32}, nil, true, false},
		{parts, []int64{1}, nil, true, false}, {parts, []int64{16}, nil, true, false}, {parts, []int64{1, 2}, nil, true, true},
		{parts, []int64{1, 8}, nil, true, false}, {parts, []int64{1, 4, 8, 32}, nil, true, true}, {parts, []int64{1, 2, 4}, nil, true, false},
		{parts, []int64{1, 2, 8, 16}, nil, true, false}, {parts, []int64{40}, []int64{8, 32}, false, false},
		{parts, []int64{3, 40}, []int64{1, 2, 8, 32}, false, false}, {parts, []int64{3, 6}, []int64{1, 4}, false, false},
		{parts, []int64{3, 5, 6}, nil, true, true}, {parts, []int64{7}, []int64{3, 5, 6}, false, false},
		{fullComplex(6), []int64{63}, []int64{31, 47, 55, 59, 61, 62}, false, false},
		{fullComplex(6), []int64{31, 47, 55, 59, 61, 62}, nil, true, true},
		{skeleton(6, 4), []int64{31, 47, 55, 59, 61, 62}, nil, true, false},
		{projective, facesAt(projective, 2), nil, true, false},
		{projective, []int64{3, 5, 6}, nil, true, true}, {projective, []int64{3, 9, 10}, nil, true, false},
	} {
		got, one := impl.BoundaryOf(c.k, c.chain)
		cycle, two := impl.IsCycle(c.k, c.chain)
		bounds, three := impl.Bounds(c.k, c.chain)
		if !slices.Equal(got, c.want) || cycle != c.cycle || bounds != c.bounds {
			t.Errorf("%v of %v: boundary %v, cycle %v, bounds %v", c.chain, c.k, got, cycle, bounds)
		}
		if one != impl.ErrNone || two != impl.ErrNone || three != impl.ErrNone {
			t.Errorf("%v of %v: codes %d, %d, %d", c.chain, c.k, one, two, three)
		}
	}
}

func TestAreHomologousByDefinition(t *testing.T) {
	seen := map[bool]int{}
	for _, k := range homologyComplexes(t) {
		for d := range topDimension(k) + 1 {
			bounding := boundingWords(k, d)
			chains := someChains(k, d, 8)
			for _, a := range chains {
				for _, b := range chains {
					want := bounding[wordOf(a)^wordOf(b)]
					seen[want]++
					if got, code := impl.AreHomologous(k, a, b); code != impl.ErrNone || got != want {
						t.Fatalf("AreHomologous(%v, %v, %v) = %v, %d; want %v", k, a, b, got, code, want)
					}
				}
			}
		}
	}
	if seen[true] < 1000 || seen[false] < 1000 {
		t.Errorf("the samples are too few: %v", seen)
	}
}

// TestAreHomologousWithTheirSums gives chains that differ by one that bounds, by a circle, and by
// both.
func TestAreHomologousWithTheirSums(t *testing.T) {
	k := madeOf(t, "5:012,13,23,34") // a triangle, another one that is hollow, and an edge
	filled, hollow := []int64{3, 5, 6}, []int64{6, 10, 12}
	for _, chain := range allChains(k, 1) {
		for _, c := range []struct {
			other []int64
			want  bool
		}{
			{chain, true}, {sumOf(chain, filled), true}, {sumOf(chain, hollow), false}, {sumOf(chain, sumOf(filled, hollow)), false},
			{sumOf(chain, []int64{24}), false},
		} {
			if got, code := impl.AreHomologous(k, chain, c.other); code != impl.ErrNone || got != c.want {
				t.Errorf("AreHomologous(%v, %v) = %v, %d", chain, c.other, got, code)
			}
		}
	}
}

// sumOf returns the faces that are in just one of two chains.
func sumOf(a, b []int64) []int64 { return chainOf(wordOf(a) ^ wordOf(b)) }

func TestAreHomologousWithEmptyChains(t *testing.T) {
	for _, c := range []struct {
		k    impl.Complex
		a, b []int64
		want bool
	}{
		{complexOn(1), nil, nil, true}, {complexOn(6), []int64{}, nil, true}, {fullComplex(3), nil, nil, true},
		{fullComplex(3), []int64{1}, nil, false}, {fullComplex(3), nil, []int64{7}, false}, {fullComplex(3), nil, []int64{3, 5, 6}, true},
		{fullComplex(3), []int64{1, 4}, nil, true}, {fullComplex(3), []int64{1}, []int64{1}, true}, {fullComplex(3), []int64{1}, []int64{4}, true},
		{fullComplex(3), []int64{7}, []int64{7}, true}, {madeOf(t, "2:0,1"), []int64{1}, []int64{2}, false},
		{madeOf(t, "2:0,1"), []int64{1, 2}, []int64{2}, false}, {complexOn(1, 1), []int64{1}, []int64{1}, true},
	} {
		if got, code := impl.AreHomologous(c.k, c.a, c.b); code != impl.ErrNone || got != c.want {
			t.Errorf("AreHomologous(%v, %v, %v) = %v, %d", c.k, c.a, c.b, got, code)
		}
	}
}

// Numbers of cycles.

func TestCountCyclesByDefinition(t *testing.T) {
	for _, k := range homologyComplexes(t) {
		for d := range int64(impl.MaxVertices) {
			if len(facesAt(k, d)) > 10 {
				continue
			}
			cycles := int64(0)
			for _, chain := range allChains(k, d) {
				if boundaryWord(k, chain) == 0 {
					cycles++
				}
			}
			bounding := int64(len(boundingWords(k, d)))
			if a, b, code := impl.CountCycles(k, d); code != impl.ErrNone || a != cycles || b != bounding {
				t.Fatalf("CountCycles(%v, %d) = %d, %d, %d; want %d, %d", k, d, a, b, code, cycles, bounding)
			}
		}
	}
}

func TestCountCyclesAtBothEnds(t *testing.T) {
	for _, c := range []struct {
		k                impl.Complex
		cycles, bounding []int64
	}{
		{complexOn(1), []int64{1, 1, 1, 1, 1, 1}, []int64{1, 1, 1, 1, 1, 1}},
		{complexOn(6), []int64{1, 1, 1, 1, 1, 1}, []int64{1, 1, 1, 1, 1, 1}},
		{complexOn(1, 1), []int64{2, 1, 1, 1, 1, 1}, []int64{1, 1, 1, 1, 1, 1}},
		{madeOf(t, "6:0,1,2,3,4,5"), []int64{64, 1, 1, 1, 1, 1}, []int64{1, 1, 1, 1, 1, 1}},
		{fullComplex(6), []int64{64, 1024, 1024, 32, 2, 1}, []int64{32, 1024, 1024, 32, 2, 1}},
		{skeleton(6, 2), []int64{64, 1024, 1024, 1, 1, 1}, []int64{32, 1024, 1, 1, 1, 1}},
		{skeleton(6, 4), []int64{64, 1024, 1024, 32, 2, 1}, []int64{32, 1024, 1024, 32, 1, 1}},
		{named(t, "projective"), []int64{64, 1024, 2, 1, 1, 1}, []int64{32, 512, 1, 1, 1, 1}},
	} {
		for d := range c.cycles {
			if a, b, code := impl.CountCycles(c.k, int64(d)); a != c.cycles[d] || b != c.bounding[d] || code != impl.ErrNone {
				t.Errorf("CountCycles(%v, %d) = %d, %d, %d", c.k, d, a, b, code)
			}
		}
	}
}

// Shortest circles and fundamental chains.

func TestShortestCircleByTryingAll(t *testing.T) {
	for _, k := range append(homologyComplexes(t), allComplexes(5)...) {
		want, wantCode := circleByTrying(k), int64(impl.ErrNone)
		if want == nil {
			wantCode = impl.ErrNotFound
		}
		if got, code := impl.ShortestCircle(k); code != wantCode || !slices.Equal(got, want) {
			t.Fatalf("ShortestCircle(%v) = %v, %d; want %v", k, got, code, want)
		}
	}
}

func TestShortestCircles(t *testing.T) {
	for text, want := range map[string][]int64{
		"1:": nil, "6:": nil, "1:0": nil, "6:0,1,2,3,4,5": nil, "6:012345": nil, "6:01,12,13,34,35": nil, "4:012,013,023,123": nil,
		"3:01,02,12":                {3, 5, 6},
		"6:34,35,45":                {24, 40, 48},
		"5:01,02,12,03,04,34":       {3, 5, 6},              // two of three faces
		"6:01,12,23,03,34,35,45":    {24, 40, 48},           // ahead of {3, 6, 9, 12}, which is longer
		"6:012,34,35,45":            {24, 40, 48},           // the first one bounds
		"4:012,013,23":              {5, 9, 12},             // as short as {6, 10, 12}
		"5:02,03,04,12,13,14":       {5, 6, 9, 10},          // three of four faces
		"6:01,12,23,34,45,05":       {3, 6, 12, 24, 33, 48}, // all six vertices
		"6:012,23,34,45,05":         {5, 12, 24, 33, 48},
		"6:02,03,12,13,24,34,25,35": {5, 6, 9, 10},
	} {
		wantCode := int64(impl.ErrNone)
		if want == nil {
			wantCode = impl.ErrNotFound
		}
		if got, code := impl.ShortestCircle(madeOf(t, text)); code != wantCode || !slices.Equal(got, want) {
			t.Errorf("ShortestCircle of %q = %v, %d; want %v", text, got, code, want)
		}
	}
}

func TestFundamentalChainByDefinition(t *testing.T) {
	found := 0
	for _, k := range append(homologyComplexes(t), allComplexes(5)...) {
		want := facesAt(k, topDimension(k))
		wantCode := int64(impl.ErrNone)
		if len(want) == 0 || boundaryWord(k, want) != 0 {
			want, wantCode = nil, impl.ErrState
		} else {
			found++
		}
		if got, code := impl.FundamentalChain(k); code != wantCode || !slices.Equal(got, want) {
			t.Fatalf("FundamentalChain(%v) = %v, %d; want %v", k, got, code, want)
		}
	}
	if found < 50 {
		t.Errorf("only %d fundamental chains", found)
	}
}

func TestFundamentalChains(t *testing.T) {
	for text, want := range map[string][]int64{
		"1:": nil, "6:": nil, "6:012345": nil, "4:0123": nil, "5:012,123,234,034,014": nil, "6:01,12,13,34,35": nil, "5:01,02,12,23": nil,
		"1:0": {1}, "6:5": {32}, "6:0,1,2,3,4,5": {1, 2, 4, 8, 16, 32}, "3:01,02,12": {3, 5, 6}, "5:01,02,12,03,04,34": {3, 5, 6, 9, 17, 24},
		"5:012,013,023,123,34": {7, 11, 13, 14}, "6:012,013,023,123,45,4": {7, 11, 13, 14},
		"6:012,023,034,045,015,124,235,134,245,135": {7, 13, 22, 25, 26, 35, 42, 44, 49, 52},
	} {
		wantCode := int64(impl.ErrNone)
		if want == nil {
			wantCode = impl.ErrState
		}
		if got, code := impl.FundamentalChain(madeOf(t, text)); code != wantCode || !slices.Equal(got, want) {
			t.Errorf("FundamentalChain of %q = %v, %d; want %v", text, got, code, want)
		}
	}
}
