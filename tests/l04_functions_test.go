package tests

import (
	"slices"
	"testing"

	"loop.example/g01348/impl"
)

// Promise 4.

func TestFlatFunctionsAreFlatMorseFunctionsThatGiveBackTheirPairings(t *testing.T) {
	acyclicSamples(t, func(k impl.Complex, list []impl.Pair) {
		f, one := impl.FlatFunction(k, list)
		morse, two := impl.IsMorseFunction(k, f)
		flat, three := impl.IsFlat(k, f)
		back, four := impl.PairingOfFunction(k, f)
		if one != impl.ErrNone || two != impl.ErrNone || three != impl.ErrNone || four != impl.ErrNone {
			t.Fatalf("%v of %v: %v, codes %d, %d, %d, %d", list, k, f, one, two, three, four)
		}
		if !morse || !flat || !slices.Equal(back, list) {
			t.Fatalf("FlatFunction(%v, %v) = %v: Morse %v, flat %v, pairing %v", k, list, f, morse, flat, back)
		}
		if !isMorseByRule(k, f) || !isFlatByRule(k, f) {
			t.Fatalf("FlatFunction(%v, %v) = %v is no flat Morse function", k, list, f)
		}
	})
}

// Promise 12.

func TestLevelsOfFlatFunctionsAtTheirGreatestNumbers(t *testing.T) {
	acyclicSamples(t, func(k impl.Complex, list []impl.Pair) {
		f, one := impl.FlatFunction(k, list)
		if one != impl.ErrNone || len(f) != len(k.Faces) {
			t.Fatalf("FlatFunction(%v, %v) = %v, %d", k, list, f, one)
		}
		greatest := int64(0)
		if len(f) > 0 {
			greatest = slices.Max(f)
		}
		whole, two := impl.LevelAt(k, f, greatest)
		if two != impl.ErrNone || !sameComplex(whole, k) {
			t.Fatalf("LevelAt(%v, %v, %d) = %v, %d", k, f, greatest, whole, two)
		}
		// Each number up to the greatest one is at some face, and each level has one more group.
		if eulers, code := impl.EulerOfLevels(k, f); code != impl.ErrNone || len(f) > 0 && int64(len(eulers)) != greatest+1 {
			t.Fatalf("EulerOfLevels(%v, %v) = %v, %d", k, f, eulers, code)
		}
	})
}

// The rest of the guarantee.

func TestPairingsOfFunctionsAreAcyclic(t *testing.T) {
	found := 0
	morseSamples(t, func(k impl.Complex, f []int64) {
		list, one := impl.PairingOfFunction(k, f)
		pairing, two := impl.IsPairing(k, list)
		acyclic, three := impl.IsAcyclicPairing(k, list)
		if one != impl.ErrNone || two != impl.ErrNone || three != impl.ErrNone || !pairing || !acyclic {
			t.Fatalf("PairingOfFunction(%v, %v) = %v: %v, %v, %d, %d, %d", k, f, list, pairing, acyclic, one, two, three)
		}
		if len(facesOnCyclesOf(k, list)) > 0 {
			t.Fatalf("PairingOfFunction(%v, %v) = %v has a cycle", k, f, list)
		}
		found++
	})
	if found < 2000 {
		t.Errorf("only %d Morse functions", found)
	}
}

// Morse functions, their pairings and critical values.

func TestIsMorseFunctionByDefinition(t *testing.T) {
	seen := map[bool]int{}
	functionSamples(t, func(k impl.Complex, f []int64) {
		want := isMorseByRule(k, f)
		seen[want]++
		if got, code := impl.IsMorseFunction(k, f); code != impl.ErrNone || got != want {
			t.Fatalf("IsMorseFunction(%v, %v) = %v, %d; want %v", k, f, got, code, want)
		}
	})
	if seen[true] < 2000 || seen[false] < 2000 {
		t.Errorf("the samples are too few: %v", seen)
	}
}

func TestIsMorseFunctionExamples(t *testing.T) {
	edge, circle, triangle := complexOn(2, 1, 2, 3), named(t, "circle"), fullComplex(3)
	for _, c := range []struct {
		k    impl.Complex
		f    []int64
		want bool
	}{
		{complexOn(1), nil, true}, {complexOn(6), []int64{}, true}, {complexOn(1, 1), []int64{-1000}, true},
		{complexOn(3, 1, 2, 4), []int64{5, 5, 5}, true},
		{edge, []int64{0, 0, 1}, true}, {edge, []int64{1, 0, 1}, true}, {edge, []int64{7, 0, 1}, true},
		{edge, []int64{1, 1, 1}, false}, // both vertices have a number of at least that of the edge
		{edge, []int64{2, 3, 1}, false}, {edge, []int64{-3, -2, -3}, false}, {edge, []int64{-3, -4, -3}, true},
		{circle, []int64{0, 1, 1, 2, 2, 3}, true},
		{circle, []int64{0, 1, 1, 2, 2, 2}, false}, // both edges of the vertex 2 have a number of at most its own
		{circle, []int64{2, 0, 2, 0, 2, 3}, false}, {circle, []int64{2, 0, 2, 0, 3, 3}, true},
		{triangle, []int64{0, 0, 1, 0, 1, 1, 2}, true}, {triangle, []int64{0, 0, 1, 0, 1, 1, 1}, false},
		{triangle, []int64{0, 0, 1, 0, 1, 2, 2}, true}, {triangle, []int64{0, 0, 1, 0, 2, 2, 2}, false},
		{triangle, []int64{2, 1, 2, 0, 3, 1, 3}, true}, {triangle, []int64{1, 2, 1, 0, 3, 2, 3}, false},
	} {
		if got, code := impl.IsMorseFunction(c.k, c.f); code != impl.ErrNone || got != c.want {
			t.Errorf("IsMorseFunction(%v, %v) = %v, %d; want %v", c.k, c.f, got, code, c.want)
		}
	}
}

func TestPairingAndCriticalValuesByDefinition(t *testing.T) {
	morseSamples(t, func(k impl.Complex, f []int64) {
		if got, code := impl.PairingOfFunction(k, f); code != impl.ErrNone || !slices.Equal(got, pairingByRule(k, f)) {
			t.Fatalf("PairingOfFunction(%v, %v) = %v, %d; want %v", k, f, got, code, pairingByRule(k, f))
		}
		if got, code := impl.CriticalValues(k, f); code != impl.ErrNone || !slices.Equal(got, criticalByRule(k, f)) {
			t.Fatalf("CriticalValues(%v, %v) = %v, %d; want %v", k, f, got, code, criticalByRule(k, f))
		}
	})
}

func TestPairingAndCriticalValuesExamples(t *testing.T) {
	edge, circle := complexOn(2, 1, 2, 3), named(t, "circle")
	for _, c := range []struct {
		k      impl.Complex
		f      []int64
		list   []impl.Pair
		values []int64
	}{
		{complexOn(4), nil, nil, nil},
		{complexOn(1, 1), []int64{-7}, nil, []int64{-7}},
		{complexOn(3, 1, 2, 4), []int64{5, -5, 5}, nil, []int64{-5, 5}}, // each value once
		{edge, []int64{0, 0, 1}, nil, []int64{0, 1}},
		{edge, []int64{1, 0, 1}, []impl.Pair{{1, 3}}, []int64{0}}, // equal numbers make a pair
		{edge, []int64{0, 2, 1}, []impl.Pair{{2, 3}}, []int64{0}},
		{edge, []int64{-1000, 1000, -999}, []impl.Pair{{2, 3}}, []int64{-1000}},
		{circle, []int64{2, 1, 2, 0, 3, 1}, []impl.Pair{{1, 3}, {2, 6}}, []int64{0, 3}},
		{circle, []int64{-2, -3, -2, -4, -1, -3}, []impl.Pair{{1, 3}, {2, 6}}, []int64{-4, -1}},
		{circle, []int64{0, 1, 2, 3, 4, 5}, nil, []int64{0, 1, 2, 3, 4, 5}},
	} {
		list, one := impl.PairingOfFunction(c.k, c.f)
		values, two := impl.CriticalValues(c.k, c.f)
		if one != impl.ErrNone || two != impl.ErrNone || !slices.Equal(list, c.list) || !slices.Equal(values, c.values) {
			t.Errorf("%v on %v: %v, %v, %d, %d", c.f, c.k, list, values, one, two)
		}
	}
}

// Flat functions.

func TestIsFlatByDefinition(t *testing.T) {
	seen := map[bool]int{}
	morseSamples(t, func(k impl.Complex, f []int64) {
		want := isFlatByRule(k, f)
		seen[want]++
		if got, code := impl.IsFlat(k, f); code != impl.ErrNone || got != want {
			t.Fatalf("IsFlat(%v, %v) = %v, %d; want %v", k, f, got, code, want)
		}
	})
	if seen[true] < 500 || seen[false] < 500 {
		t.Errorf("the samples are too few: %v", seen)
	}
}

func TestIsFlatExamples(t *testing.T) {
	edge, triangle := complexOn(2, 1, 2, 3), fullComplex(3)
	for _, c := range []struct {
		k    impl.Complex
		f    []int64
		want bool
	}{
		{complexOn(6), nil, true}, {complexOn(1, 1), []int64{12}, true}, {complexOn(3, 1, 2, 4), []int64{3, 1, 2}, true},
		{edge, []int64{1, 0, 1}, true}, {edge, []int64{0, 0, 1}, true}, {edge, []int64{-1, -1, 5}, true},
		{edge, []int64{2, 0, 1}, false}, {edge, []int64{0, 1000, 999}, false},
		{triangle, []int64{1, 2, 2, 0, 1, 3, 3}, true}, {triangle, []int64{1, 2, 2, 0, 1, 4, 3}, false},
	} {
		if got, code := impl.IsFlat(c.k, c.f); code != impl.ErrNone || got != c.want {
			t.Errorf("IsFlat(%v, %v) = %v, %d; want %v", c.k, c.f, got, code, c.want)
		}
	}
}

func TestFlatFunctionByDefinition(t *testing.T) {
	acyclicSamples(t, func(k impl.Complex, list []impl.Pair) {
		want := flatByRule(t, k, list)
		if got, code := impl.FlatFunction(k, list); code != impl.ErrNone || !slices.Equal(got, want) {
			t.Fatalf("FlatFunction(%v, %v) = %v, %d; want %v", k, list, got, code, want)
		}
	})
}

func TestFlatFunctionExamples(t *testing.T) {
	circle, around, some := circlePairings()
	for _, c := range []struct {
		k    impl.Complex
		list []impl.Pair
		want []int64
	}{
		{complexOn(1), nil, nil}, {complexOn(6), []impl.Pair{}, nil}, {complexOn(1, 1), nil, []int64{0}},
		{complexOn(2, 1, 2, 3), []impl.Pair{{1, 3}}, []int64{1, 0, 1}},
		{complexOn(2, 1, 2, 3), []impl.Pair{{2, 3}}, []int64{0, 1, 1}},
		{complexOn(2, 1, 2, 3), nil, []int64{0, 1, 2}},
		{circle, some, []int64{2, 1, 2, 0, 3, 1}}, {circle, nil, []int64{0, 1, 2, 3, 4, 5}},
		{fullComplex(3), []impl.Pair{{1, 3}, {2, 6}, {5, 7}}, []int64{2, 1, 2, 0, 3, 1, 3}},
	} {
		if got, code := impl.FlatFunction(c.k, c.list); code != impl.ErrNone || !slices.Equal(got, c.want) {
			t.Errorf("FlatFunction(%v, %v) = %v, %d; want %v", c.k, c.list, got, code, c.want)
		}
	}
	if got, code := impl.FlatFunction(circle, around); code != impl.ErrState || len(got) > 0 {
		t.Errorf("FlatFunction = %v, %d", got, code)
	}
	// Without pairs the groups are the faces by their numbers, the most that there can be.
	got, code := impl.FlatFunction(fullComplex(6), nil)
	for i, number := range got {
		if number != int64(i) {
			t.Errorf("FlatFunction of all faces has %d at %d", number, i+1)
		}
	}
	if code != impl.ErrNone || len(got) != 63 {
		t.Errorf("FlatFunction of all faces = %v, %d", got, code)
	}
}

func TestAreEquivalentByDefinition(t *testing.T) {
	seen := map[bool]int{}
	check := func(k impl.Complex, f, g []int64) {
		want := slices.Equal(pairingByRule(k, f), pairingByRule(k, g))
		seen[want]++
		if got, code := impl.AreEquivalent(k, f, g); code != impl.ErrNone || got != want {
			t.Fatalf("AreEquivalent(%v, %v, %v) = %v, %d; want %v", k, f, g, got, code, want)
		}
	}
	var before impl.Complex
	var g []int64
	morseSamples(t, func(k impl.Complex, f []int64) {
		check(k, f, f)
		check(k, f, flatByRule(t, k, pairingByRule(k, f)))
		if sameComplex(k, before) {
			check(k, f, g)
			check(k, g, f)
		}
		before, g = k, f
	})
	if seen[true] < 2000 || seen[false] < 500 {
		t.Errorf("the samples are too few: %v", seen)
	}
}

func TestAreEquivalentExamples(t *testing.T) {
	edge := complexOn(2, 1, 2, 3)
	for _, c := range []struct {
		k    impl.Complex
		f, g []int64
		want bool
	}{
		{complexOn(6), nil, []int64{}, true}, {complexOn(1, 1), []int64{-1000}, []int64{1000}, true},
		{edge, []int64{1, 0, 1}, []int64{5, -5, 0}, true}, {edge, []int64{1, 0, 1}, []int64{0, 1, 1}, false},
		{edge, []int64{0, 0, 1}, []int64{1, 0, 1}, false}, {edge, []int64{0, 0, 1}, []int64{1, 2, 3}, true},
	} {
		for _, both := range [][2][]int64{{c.f, c.g}, {c.g, c.f}} {
			if got, code := impl.AreEquivalent(c.k, both[0], both[1]); code != impl.ErrNone || got != c.want {
				t.Errorf("AreEquivalent(%v, %v) = %v, %d; want %v", c.k, both, got, code, c.want)
			}
		}
	}
}

// Levels.

func TestLevelAtByDefinition(t *testing.T) {
	functionSamples(t, func(k impl.Complex, f []int64) {
		for _, c := range []int64{-impl.MaxValue, -32, -2, -1, 0, 1, 2, 3, 5, 12, 40, impl.MaxValue} {
			got, code := impl.LevelAt(k, f, c)
			if want := levelByRule(k, f, c); code != impl.ErrNone || !sameComplex(got, want) {
				t.Fatalf("LevelAt(%v, %v, %d) = %v, %d; want %v", k, f, c, got, code, want)
			}
		}
	})
}

func TestLevelAtExamples(t *testing.T) {
	circle, triangle := named(t, "circle"), fullComplex(3)
	f := []int64{2, 1, 2, 0, 3, 1}
	down := []int64{5, 5, 0, 5, 5, 1, 5} // no Morse function: the edges come ahead of their vertices
	for _, c := range []struct {
		k    impl.Complex
		f    []int64
		c    int64
		want []int64
	}{
		{complexOn(4), nil, 0, nil}, {complexOn(4), nil, 1000, nil},
		{circle, f, -1000, nil}, {circle, f, -1, nil}, {circle, f, 0, []int64{4}}, {circle, f, 1, []int64{2, 4, 6}},
		{circle, f, 2, []int64{1, 2, 3, 4, 6}}, {circle, f, 3, circle.Faces}, {circle, f, 1000, circle.Faces},
		{triangle, down, -1, nil}, {triangle, down, 0, []int64{1, 2, 3}}, {triangle, down, 1, []int64{1, 2, 3, 4, 6}},
		{triangle, down, 4, []int64{1, 2, 3, 4, 6}}, {triangle, down, 5, triangle.Faces},
		{triangle, []int64{9, 9, 9, 9, 9, 9, -9}, -9, triangle.Faces}, {triangle, []int64{9, 9, 9, 9, 9, 9, -9}, -10, nil},
		{complexOn(1, 1), []int64{-1000}, -1000, []int64{1}}, {complexOn(1, 1), []int64{1000}, 999, nil},
		{complexOn(1, 1), []int64{1000}, 1000, []int64{1}},
	} {
		if got, code := impl.LevelAt(c.k, c.f, c.c); code != impl.ErrNone || !sameComplex(got, complexOn(c.k.Vertices, c.want...)) {
			t.Errorf("LevelAt(%v, %v, %d) = %v, %d; want %v", c.k, c.f, c.c, got, code, c.want)
		}
	}
}

func TestEulerOfLevelsByDefinition(t *testing.T) {
	functionSamples(t, func(k impl.Complex, f []int64) {
		if got, code := impl.EulerOfLevels(k, f); code != impl.ErrNone || !slices.Equal(got, eulersByRule(k, f)) {
			t.Fatalf("EulerOfLevels(%v, %v) = %v, %d; want %v", k, f, got, code, eulersByRule(k, f))
		}
	})
}

func TestEulerOfLevelsExamples(t *testing.T) {
	circle := named(t, "circle")
	for _, c := range []struct {
		k       impl.Complex
		f, want []int64
	}{
		{complexOn(5), nil, nil}, {complexOn(1, 1), []int64{-1000}, []int64{1}},
		{circle, []int64{2, 1, 2, 0, 3, 1}, []int64{1, 1, 1, 0}},
		{circle, []int64{0, 0, 0, 0, 0, 0}, []int64{0}}, // equal numbers have one level
		{circle, []int64{5, 4, 3, 2, 1, 0}, []int64{1, 1, 1, 0, 0, 0}},
		{circle, []int64{-3, -2, 1, -1, 2, 3}, []int64{1, 2, 3, 2, 1, 0}},
		{complexOn(3, 1, 2, 4), []int64{1000, -1000, 0}, []int64{1, 2, 3}},
	} {
		if got, code := impl.EulerOfLevels(c.k, c.f); code != impl.ErrNone || !slices.Equal(got, c.want) {
			t.Errorf("EulerOfLevels(%v, %v) = %v, %d; want %v", c.k, c.f, got, code, c.want)
		}
	}
}

func TestDimensionFunction(t *testing.T) {
	for _, k := range sampleComplexes(t) {
		f, code := impl.DimensionFunction(k)
		if code != impl.ErrNone || len(f) != len(k.Faces) {
			t.Fatalf("DimensionFunction(%v) = %v, %d", k, f, code)
		}
		for i, face := range k.Faces {
			if f[i] != sizeOf(face)-1 {
				t.Fatalf("DimensionFunction(%v) = %v", k, f)
			}
		}
		morse, one := impl.IsMorseFunction(k, f)
		flat, two := impl.IsFlat(k, f)
		list, three := impl.PairingOfFunction(k, f)
		if !morse || !flat || len(list) > 0 || one != impl.ErrNone || two != impl.ErrNone || three != impl.ErrNone {
			t.Fatalf("DimensionFunction(%v) = %v: %v, %v, %v", k, f, morse, flat, list)
		}
	}
}
