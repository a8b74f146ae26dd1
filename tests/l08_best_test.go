package tests

import (
	"slices"
	"testing"

	"loop.example/g01348/impl"
)

// Promise 8.

func TestBestPairingsHaveTheLeastNumber(t *testing.T) {
	for _, k := range soughtComplexes(t) {
		least, one := impl.LeastCritical(k)
		best, two := impl.BestPairing(k)
		critical, three := impl.CriticalFaces(k, best)
		acyclic, four := impl.IsAcyclicPairing(k, best)
		if one != impl.ErrNone || two != impl.ErrNone || three != impl.ErrNone || four != impl.ErrNone || !acyclic || int64(len(critical)) != least {
			t.Fatalf("%v: least number %d, %d, best pairing %v, %d, with %v", k, least, one, best, two, critical)
		}
		if want := fewestWith(k, nil); least != want {
			t.Fatalf("LeastCritical(%v) = %d, want %d", k, least, want)
		}
	}
}

// TestNoAcyclicPairingHasLessThanTheLeastNumber looks at all acyclic pairings.
func TestNoAcyclicPairingHasLessThanTheLeastNumber(t *testing.T) {
	for _, k := range countedComplexes(t) {
		least, code := impl.LeastCritical(k)
		met := false
		for _, list := range acyclicByRule(k) {
			if number := criticalCount(k, list); code != impl.ErrNone || number < least {
				t.Fatalf("LeastCritical(%v) = %d, %d; %v has %d", k, least, code, list, number)
			} else if number == least {
				met = true
			}
		}
		if !met {
			t.Fatalf("LeastCritical(%v) = %d: no acyclic pairing has so many", k, least)
		}
	}
}

func TestFilledPairingsAreFull(t *testing.T) {
	grown := 0
	fillSamples(t, func(k impl.Complex, list []impl.Pair) {
		filled, one := impl.FillPairing(k, list)
		full, two := impl.IsFullPairing(k, filled)
		if one != impl.ErrNone || two != impl.ErrNone || !full || !isAcyclicByRule(k, filled) || len(pairsThatCanFollow(k, filled)) > 0 {
			t.Fatalf("FillPairing(%v, %v) = %v, %d; full: %v, %d", k, list, filled, one, full, two)
		}
		for _, p := range list {
			if !slices.Contains(filled, p) {
				t.Fatalf("FillPairing(%v, %v) = %v lacks %v", k, list, filled, p)
			}
		}
		if len(filled) > len(list) {
			grown++
		}
	})
	if grown < 1000 {
		t.Errorf("only %d pairings have grown", grown)
	}
}

// Promise 14.

func TestVectorsFulfilTheInequalities(t *testing.T) {
	for _, k := range countedComplexes(t) {
		vectors, code := impl.VectorsOf(k)
		if code != impl.ErrNone || len(vectors) == 0 {
			t.Fatalf("VectorsOf(%v) = %v, %d", k, vectors, code)
		}
		betti := bettiOf(k, 2)
		for _, vector := range vectors {
			answers, code := impl.InequalitiesFor(k, vector)
			if code != impl.ErrNone || !slices.Equal(answers, []int64{1, 1, 1}) || !slices.Equal(inequalitiesByRule(vector, betti), answers) {
				t.Fatalf("InequalitiesFor(%v, %v) = %v, %d", k, vector, answers, code)
			}
		}
	}
}

// TestNumbersOfCriticalFacesFulfilTheInequalities takes acyclic pairings of larger complexes, too.
func TestNumbersOfCriticalFacesFulfilTheInequalities(t *testing.T) {
	fillSamples(t, func(k impl.Complex, list []impl.Pair) {
		numbers, one := impl.CriticalNumbers(k, list)
		answers, two := impl.InequalitiesFor(k, numbers)
		if one != impl.ErrNone || two != impl.ErrNone || !slices.Equal(answers, []int64{1, 1, 1}) {
			t.Fatalf("%v, %v: numbers %v, %d, inequalities %v, %d", k, list, numbers, one, answers, two)
		}
	})
}

// The rest of the guarantee of chapter 8.

func TestPerfectPairingsAreBest(t *testing.T) {
	perfect := 0
	for _, k := range countedComplexes(t) {
		least, _ := impl.LeastCritical(k)
		for _, list := range acyclicByRule(k) {
			yes, code := impl.IsPerfect(k, list)
			if code != impl.ErrNone || yes && criticalCount(k, list) != least {
				t.Fatalf("IsPerfect(%v, %v) = %v, %d; the least number is %d", k, list, yes, code, least)
			}
			if yes {
				perfect++
			}
		}
	}
	if perfect < 1000 {
		t.Errorf("only %d perfect pairings", perfect)
	}
}

// TestBestPairingsArePerfectIfOneIs compares the least number with the sum of the Betti numbers.
func TestBestPairingsArePerfectIfOneIs(t *testing.T) {
	for _, k := range soughtComplexes(t) {
		sum := int64(0)
		for _, number := range bettiOf(k, 2) {
			sum += number
		}
		best, one := impl.BestPairing(k)
		yes, two := impl.IsPerfect(k, best)
		if one != impl.ErrNone || two != impl.ErrNone || yes != (criticalCount(k, best) == sum) {
			t.Fatalf("%v: best pairing %v, %d; perfect: %v, %d; holes: %d", k, best, one, yes, two, sum)
		}
	}
}

// The functions one by one.

func TestBestPairingAmongAllAcyclicOnes(t *testing.T) {
	for _, k := range countedComplexes(t) {
		want := leastBestOf(acyclicByRule(k))
		if best, code := impl.BestPairing(k); code != impl.ErrNone || !slices.Equal(best, want) {
			t.Fatalf("BestPairing(%v) = %v, %d; want %v", k, best, code, want)
		}
	}
}

func TestBestPairingByTakingOutFaces(t *testing.T) {
	for _, k := range soughtComplexes(t) {
		want := bestByTaking(k)
		if best, code := impl.BestPairing(k); code != impl.ErrNone || !slices.Equal(best, want) {
			t.Fatalf("BestPairing(%v) = %v, %d; want %v", k, best, code, want)
		}
	}
}

func TestBestPairingExamples(t *testing.T) {
	for _, c := range []struct {
		text  string
		least int64
		best  []impl.Pair
	}{
		{"1:", 0, nil}, {"6:", 0, nil}, {"1:0", 1, nil}, {"6:5", 1, nil}, {"2:0,1", 2, nil}, {"6:0,1,2,3,4,5", 6, nil}, {"2:01", 1, []impl.Pair{{1, 3}}},
		{"3:01,02", 1, []impl.Pair{{1, 3}, {4, 5}}}, {"3:01,12", 1, []impl.Pair{{1, 3}, {2, 6}}}, {"3:02,12", 1, []impl.Pair{{1, 5}, {2, 6}}},
		{"3:01,02,12", 2, []impl.Pair{{1, 3}, {2, 6}}}, {"3:012", 1, []impl.Pair{{1, 3}, {2, 6}, {5, 7}}}, {"4:01,12,23,03", 2, []impl.Pair{{1, 3}, {2, 6}, {4, 12}}},
		{"6:05,14,23", 3, []impl.Pair{{1, 33}, {2, 18}, {4, 12}}}, {"5:01,02,12,03,04,34", 3, []impl.Pair{{1, 3}, {2, 6}, {8, 9}, {16, 17}}},
		{"5:12,03,04,14", 1, []impl.Pair{{1, 9}, {2, 18}, {4, 6}, {16, 17}}},                  // not with 2, 6, though this comes ahead
		{"4:012,013,023", 1, []impl.Pair{{1, 3}, {2, 6}, {4, 12}, {5, 7}, {9, 13}, {10, 11}}}, // not with 9, 11
		{"5:123,124,134", 1, []impl.Pair{{2, 6}, {4, 12}, {8, 24}, {10, 14}, {18, 26}, {20, 22}}},
		{"4:012,013,023,123", 2, []impl.Pair{{1, 3}, {2, 6}, {4, 12}, {5, 7}, {9, 11}, {10, 14}}}, {"4:0123", 1, []impl.Pair{{1, 3}, {2, 6}, {4, 12}, {5, 7}, {9, 11}, {10, 14}, {13, 15}}},
	} {
		k := madeOf(t, c.text)
		if least, code := impl.LeastCritical(k); code != impl.ErrNone || least != c.least {
			t.Errorf("LeastCritical(%q) = %d, %d; want %d", c.text, least, code, c.least)
		}
		if best, code := impl.BestPairing(k); code != impl.ErrNone || !slices.Equal(best, c.best) {
			t.Errorf("BestPairing(%q) = %v, %d; want %v", c.text, best, code, c.best)
		}
	}
}

// TestBestPairingsWithMostFaces takes complexes with MaxSought faces.
func TestBestPairingsWithMostFaces(t *testing.T) {
	for name, numbers := range map[string][]int64{"bipyramid": {1, 0, 1}, "moebius": {1, 1, 0}} {
		k := named(t, name)
		best, code := impl.BestPairing(k)
		if code != impl.ErrNone || len(k.Faces) != impl.MaxSought || !isAcyclicByRule(k, best) || !slices.Equal(vectorByRule(k, best), numbers) {
			t.Errorf("BestPairing(%s) = %v, %d", name, best, code)
		}
	}
}

func TestAcyclicPairingsByDefinition(t *testing.T) {
	for _, k := range countedComplexes(t) {
		all := acyclicByRule(k)
		if count, code := impl.CountAcyclic(k); code != impl.ErrNone || count != int64(len(all)) {
			t.Fatalf("CountAcyclic(%v) = %d, %d; want %d", k, count, code, len(all))
		}
		want := vectorsByRule(k, all)
		if vectors, code := impl.VectorsOf(k); code != impl.ErrNone || !sameRows(vectors, want) {
			t.Fatalf("VectorsOf(%v) = %v, %d; want %v", k, vectors, code, want)
		}
	}
}

func TestAcyclicPairingsExamples(t *testing.T) {
	for _, c := range []struct {
		text    string
		count   int64
		vectors [][]int64
	}{
		{"1:", 1, [][]int64{{}}}, {"6:", 1, [][]int64{{}}}, {"1:0", 1, [][]int64{{1}}}, {"6:5", 1, [][]int64{{1}}}, {"6:0,1,2,3,4,5", 1, [][]int64{{6}}},
		{"2:01", 3, [][]int64{{1, 0}, {2, 1}}}, {"3:01,2", 3, [][]int64{{2, 0}, {3, 1}}}, {"3:01,12", 8, [][]int64{{1, 0}, {2, 1}, {3, 2}}},
		{"3:01,02,12", 16, [][]int64{{1, 1}, {2, 2}, {3, 3}}}, {"4:01,12,23,03", 45, [][]int64{{1, 1}, {2, 2}, {3, 3}, {4, 4}}},
		{"3:012", 40, [][]int64{{1, 0, 0}, {1, 1, 1}, {2, 1, 0}, {2, 2, 1}, {3, 2, 0}, {3, 3, 1}}},
		{"6:01,12,13,34,35", 128, [][]int64{{1, 0}, {2, 1}, {3, 2}, {4, 3}, {5, 4}, {6, 5}}},
		{"5:01,02,12,03,04,34", 192, [][]int64{{1, 2}, {2, 3}, {3, 4}, {4, 5}, {5, 6}}},
	} {
		k := madeOf(t, c.text)
		if count, code := impl.CountAcyclic(k); code != impl.ErrNone || count != c.count {
			t.Errorf("CountAcyclic(%q) = %d, %d; want %d", c.text, count, code, c.count)
		}
		if vectors, code := impl.VectorsOf(k); code != impl.ErrNone || !sameRows(vectors, c.vectors) {
			t.Errorf("VectorsOf(%q) = %v, %d; want %v", c.text, vectors, code, c.vectors)
		}
	}
}

func TestIsFullPairingByDefinition(t *testing.T) {
	full, others := 0, 0
	check := func(k impl.Complex, list []impl.Pair) {
		want := len(pairsThatCanFollow(k, list)) == 0
		if got, code := impl.IsFullPairing(k, list); code != impl.ErrNone || got != want {
			t.Fatalf("IsFullPairing(%v, %v) = %v, %d", k, list, got, code)
		}
		if want {
			full++
		} else {
			others++
		}
	}
	fillSamples(t, check)
	for _, k := range smallComplexes(4) {
		if len(k.Faces) > 10 {
			continue
		}
		for _, list := range acyclicByRule(k) {
			check(k, list)
		}
	}
	if full < 1000 || others < 1000 {
		t.Errorf("only %d full pairings, and %d others", full, others)
	}
}

func TestIsFullPairingExamples(t *testing.T) {
	for _, c := range []struct {
		text string
		list []impl.Pair
		full bool
	}{
		{"1:", nil, true}, {"6:", nil, true}, {"1:0", nil, true}, {"6:0,1,2,3,4,5", nil, true}, {"2:01", nil, false}, {"2:01", []impl.Pair{{1, 3}}, true}, {"2:01", []impl.Pair{{2, 3}}, true},
		{"3:01,02,12", nil, false}, {"3:01,02,12", []impl.Pair{{1, 3}}, false}, {"3:01,02,12", []impl.Pair{{1, 3}, {2, 6}}, true}, // 4, 5 would go around
		{"4:01,12,23", []impl.Pair{{1, 3}, {8, 12}}, false}, {"4:01,12,23", []impl.Pair{{2, 3}, {4, 12}}, true}, {"4:0,12,13", []impl.Pair{{2, 6}, {8, 10}}, true},
		{"4:02,12,03", []impl.Pair{{1, 9}, {4, 6}}, true}, {"4:02,12,03", []impl.Pair{{1, 9}, {2, 6}, {4, 5}}, true}, // full, but only the other one is best
		{"3:012", []impl.Pair{{1, 3}, {2, 6}}, false}, {"3:012", []impl.Pair{{1, 3}, {2, 6}, {5, 7}}, true},
	} {
		if full, code := impl.IsFullPairing(madeOf(t, c.text), c.list); code != impl.ErrNone || full != c.full {
			t.Errorf("IsFullPairing(%q, %v) = %v, %d", c.text, c.list, full, code)
		}
	}
}

func TestFillPairingByItsRule(t *testing.T) {
	check := func(k impl.Complex, list []impl.Pair) {
		want := fillByRule(k, list)
		if got, code := impl.FillPairing(k, list); code != impl.ErrNone || !slices.Equal(got, want) {
			t.Fatalf("FillPairing(%v, %v) = %v, %d; want %v", k, list, got, code, want)
		}
	}
	fillSamples(t, check)
	for _, k := range smallComplexes(4) {
		check(k, nil)
	}
}

func TestFillPairingExamples(t *testing.T) {
	for _, c := range []struct {
		text   string
		list   []impl.Pair
		filled []impl.Pair
	}{
		{"1:", nil, nil}, {"6:", nil, nil}, {"1:0", nil, nil}, {"2:0,1", nil, nil}, {"2:01", nil, []impl.Pair{{1, 3}}}, {"2:01", []impl.Pair{{2, 3}}, []impl.Pair{{2, 3}}},
		{"3:01,02,12", nil, []impl.Pair{{1, 3}, {2, 6}}}, {"3:01,02,12", []impl.Pair{{1, 3}}, []impl.Pair{{1, 3}, {2, 6}}},
		{"3:01,02,12", []impl.Pair{{2, 3}}, []impl.Pair{{1, 5}, {2, 3}}}, {"3:01,02,12", []impl.Pair{{4, 6}}, []impl.Pair{{1, 3}, {4, 6}}},
		{"3:01,02,12", []impl.Pair{{2, 6}, {4, 5}}, []impl.Pair{{2, 6}, {4, 5}}}, {"3:012", []impl.Pair{{3, 7}}, []impl.Pair{{1, 5}, {2, 6}, {3, 7}}},
		{"5:12,03,04,14", nil, []impl.Pair{{1, 9}, {2, 6}, {16, 17}}}, // not best
	} {
		if got, code := impl.FillPairing(madeOf(t, c.text), c.list); code != impl.ErrNone || !slices.Equal(got, c.filled) {
			t.Errorf("FillPairing(%q, %v) = %v, %d; want %v", c.text, c.list, got, code, c.filled)
		}
	}
}

func TestIsPerfectByDefinition(t *testing.T) {
	perfect, others := 0, 0
	fillSamples(t, func(k impl.Complex, list []impl.Pair) {
		want := slices.Equal(vectorByRule(k, list), bettiOf(k, 2))
		if got, code := impl.IsPerfect(k, list); code != impl.ErrNone || got != want {
			t.Fatalf("IsPerfect(%v, %v) = %v, %d", k, list, got, code)
		}
		if want {
			perfect++
		} else {
			others++
		}
	})
	if perfect < 200 || others < 1000 {
		t.Errorf("only %d perfect pairings, and %d others", perfect, others)
	}
}

// TestIsPerfectExamples takes the Betti numbers for 2: for 3 the projective plane has fewer holes than
// each pairing has critical faces.
func TestIsPerfectExamples(t *testing.T) {
	for _, c := range []struct {
		text    string
		list    []impl.Pair
		perfect bool
	}{
		{"1:", nil, true}, {"6:", nil, true}, {"1:0", nil, true}, {"6:0,1,2,3,4,5", nil, true}, {"2:01", nil, false}, {"2:01", []impl.Pair{{1, 3}}, true},
		{"3:01,02,12", nil, false}, {"3:01,02,12", []impl.Pair{{4, 6}}, false}, {"3:01,02,12", []impl.Pair{{1, 5}, {4, 6}}, true},
		{"4:012,013,023", []impl.Pair{{1, 3}, {2, 6}, {4, 12}, {5, 7}, {9, 11}}, false}, // full
		{"4:012,013,023", []impl.Pair{{1, 3}, {2, 6}, {4, 12}, {5, 7}, {9, 13}, {10, 11}}, true},
		{"6:012,023,034,045,015,124,235,134,245,135", []impl.Pair{{1, 33}, {2, 34}, {3, 35}, {4, 36}, {5, 13}, {6, 7}, {8, 40}, {9, 25}, {10, 42}, {12, 44}, {16, 24}, {17, 49}, {18, 26}, {20, 22}}, true},
		{"6:012,023,034,045,015,124,235,134,245,135", []impl.Pair{{1, 33}, {2, 34}, {3, 35}, {4, 36}, {5, 13}, {6, 7}, {8, 40}, {9, 25}, {10, 42}, {12, 44}, {16, 24}, {17, 49}, {18, 26}}, false},
	} {
		if perfect, code := impl.IsPerfect(madeOf(t, c.text), c.list); code != impl.ErrNone || perfect != c.perfect {
			t.Errorf("IsPerfect(%q, %v) = %v, %d", c.text, c.list, perfect, code)
		}
	}
}

func TestInequalitiesByDefinition(t *testing.T) {
	seen := map[[3]int64]int{}
	for _, text := range []string{"1:", "1:0", "4:0,1,23", "3:01,02,12", "6:01,02,12,34,35,45", "4:012,013,023,123", "5:01,02,12,03,04,34", "6:012,023,034,045,015,124,235,134,245,135", "4:0123", "6:012,3"} {
		k := madeOf(t, text)
		betti := bettiOf(k, 2)
		for c := range listsAround(len(betti)) {
			want := inequalitiesByRule(c, betti)
			got, code := impl.InequalitiesFor(k, c)
			if code != impl.ErrNone || !slices.Equal(got, want) {
				t.Fatalf("InequalitiesFor(%q, %v) = %v, %d; want %v", text, c, got, code, want)
			}
			seen[[3]int64(want)]++
		}
	}
	if len(seen) != 6 { // the strong ones have the weak ones with them
		t.Errorf("not all answers were seen: %v", seen)
	}
}

func TestInequalitiesExamples(t *testing.T) {
	projective := "6:012,023,034,045,015,124,235,134,245,135"
	for _, c := range []struct {
		text    string
		numbers []int64
		answers []int64
	}{
		{"1:", nil, []int64{1, 1, 1}}, {"6:", []int64{}, []int64{1, 1, 1}}, {"1:0", []int64{1}, []int64{1, 1, 1}}, {"1:0", []int64{0}, []int64{0, 0, 0}}, {"6:3", []int64{2}, []int64{1, 1, 0}}, {"1:0", []int64{1000}, []int64{1, 1, 0}},
		{"3:01,02,12", []int64{1, 1}, []int64{1, 1, 1}}, {"3:01,02,12", []int64{1000, 1000}, []int64{1, 1, 1}}, {"3:01,02,12", []int64{2, 1}, []int64{1, 0, 0}}, {"3:01,02,12", []int64{1, 2}, []int64{1, 1, 0}},
		{"3:01,02,12", []int64{0, 0}, []int64{0, 0, 1}}, {"3:01,02,12", []int64{1000, 0}, []int64{0, 0, 0}}, {"3:01,02,12", []int64{0, 1000}, []int64{0, 0, 0}}, {"3:01,02,12", []int64{1, 1000}, []int64{1, 1, 0}},
		{"3:012", []int64{1, 0, 0}, []int64{1, 1, 1}}, {"3:012", []int64{2, 0, 0}, []int64{1, 0, 0}}, {"3:012", []int64{3, 0, 1}, []int64{1, 0, 0}}, {"3:012", []int64{1, 0, 1}, []int64{1, 1, 0}}, {"3:012", []int64{2, 0, 1000}, []int64{1, 0, 0}},
		{"3:012", []int64{3, 1, 0}, []int64{1, 0, 0}}, {"3:012", []int64{3, 2, 0}, []int64{1, 1, 1}}, {"3:012", []int64{1, 1, 0}, []int64{1, 0, 0}}, {"5:0,1,23,24,34", []int64{3, 0}, []int64{0, 0, 0}}, {"5:0,1,23,24,34", []int64{4, 1}, []int64{1, 0, 0}},
		{"4:012,03", []int64{2, 0, 0}, []int64{1, 0, 0}}, {"4:012,013,023,123", []int64{2, 0, 0}, []int64{0, 0, 1}}, {"4:012,013,023,123", []int64{1, 5, 6}, []int64{1, 1, 1}},
		{projective, []int64{1, 1, 1}, []int64{1, 1, 1}}, {projective, []int64{1, 0, 0}, []int64{0, 0, 1}}, {projective, []int64{2, 1, 0}, []int64{0, 0, 1}}, {projective, []int64{2, 1, 1}, []int64{1, 0, 0}},
		{"6:012345", []int64{1, 0, 0, 0, 0, 0}, []int64{1, 1, 1}}, {"6:012345", []int64{1000, 999, 0, 1000, 1000, 0}, []int64{1, 1, 1}}, {"6:012345", []int64{1000, 1000, 1000, 1000, 1000, 1000}, []int64{1, 1, 0}}, {"6:012345", []int64{1000, 998, 1000, 0, 0, 0}, []int64{1, 0, 0}},
	} {
		if got, code := impl.InequalitiesFor(madeOf(t, c.text), c.numbers); code != impl.ErrNone || !slices.Equal(got, c.answers) {
			t.Errorf("InequalitiesFor(%q, %v) = %v, %d; want %v", c.text, c.numbers, got, code, c.answers)
		}
	}
}
