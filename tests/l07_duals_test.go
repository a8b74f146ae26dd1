package tests

import (
	"slices"
	"testing"

	"loop.example/g01348/impl"
)

// Promise 7.

func TestFlipsKeepBettiNumbers(t *testing.T) {
	flips := 0
	flipSamples(t, func(k impl.Complex, f int64) {
		got, code := impl.FlipOf(k, f)
		if code == impl.ErrState {
			return
		}
		flips++
		if code != impl.ErrNone || !impl.IsComplex(got) || got.Vertices != k.Vertices || hasFace(got, f) {
			t.Fatalf("FlipOf(%v, %d) = %v, %d", k, f, got, code)
		}
		for _, p := range []int64{2, 3} {
			if before, after := bettiUpTo5(t, k, p), bettiUpTo5(t, got, p); before != after {
				t.Fatalf("FlipOf(%v, %d) = %v: Betti numbers for %d: %v, %v", k, f, got, p, before, after)
			}
		}
	})
	if flips < 1000 {
		t.Errorf("only %d flips", flips)
	}
}

func TestRestrictionsOfShellingsCountTheNumbersH(t *testing.T) {
	shellings := 0
	check := func(k impl.Complex, order []int64) {
		restrictions, one := impl.RestrictionsOf(k, order)
		if one == impl.ErrState {
			return
		}
		shellings++
		numbers, two := impl.NumbersH(k)
		if one != impl.ErrNone || two != impl.ErrNone || len(restrictions) != len(order) {
			t.Fatalf("%v: restrictions %v, %d of %v; numbers h %v, %d", k, restrictions, one, order, numbers, two)
		}
		counts := make([]int64, topDimension(k)+2)
		for _, r := range restrictions {
			counts[sizeOf(r)]++
		}
		if len(k.Faces) > 0 && !slices.Equal(counts, numbers) {
			t.Fatalf("%v: restrictions %v of %v; numbers h %v", k, restrictions, order, numbers)
		}
	}
	orderSamples(t, check)
	for _, k := range pureComplexes(t) {
		if first, code := impl.FirstShelling(k); code == impl.ErrNone {
			check(k, first)
		}
	}
	if shellings < 5000 {
		t.Errorf("only %d shellings", shellings)
	}
}

// TestRestrictionsPartTheFaces looks for each face of a shelled complex for the only facet that it is
// in, together with the restriction of this.
func TestRestrictionsPartTheFaces(t *testing.T) {
	orderSamples(t, func(k impl.Complex, order []int64) {
		restrictions, code := impl.RestrictionsOf(k, order)
		if code == impl.ErrState {
			return
		}
		for _, face := range append([]int64{0}, k.Faces...) {
			count := 0
			for i, facet := range order {
				if isInside(restrictions[i], face) && isInside(face, facet) {
					count++
				}
			}
			if code != impl.ErrNone || count != 1 && len(order) > 0 {
				t.Fatalf("RestrictionsOf(%v, %v) = %v, %d: %d has %d facets", k, order, restrictions, code, face, count)
			}
		}
	})
}

// Promise 16.

func TestDualsOfDualsAreTheComplexes(t *testing.T) {
	for _, k := range append(collapseComplexes(t), fullComplex(1), fullComplex(2), fullComplex(3), fullComplex(4)) {
		dual, one := impl.DualOf(k)
		back, two := impl.DualOf(dual)
		want := k
		if all := allSet(k); hasFace(k, all) { // then all other sets are left
			want = leaving(k, all)
		}
		if one != impl.ErrNone || two != impl.ErrNone || !impl.IsComplex(dual) || dual.Vertices != k.Vertices || !sameComplex(back, want) {
			t.Fatalf("DualOf(%v) = %v, %d; its dual is %v, %d", k, dual, one, back, two)
		}
	}
}

// TestDualsTellTheBettiNumbers compares the Betti numbers of complexes with those of their duals: with
// 1 less at the dimension 0, and 1 at -1 if there are no faces, that of i is that of n - 3 - i.
func TestDualsTellTheBettiNumbers(t *testing.T) {
	reduced := func(k impl.Complex, d int64) int64 {
		switch {
		case d == -1 && len(k.Faces) == 0:
			return 1
		case d < 0 || d > topDimension(k):
			return 0
		case d == 0:
			return bettiUpTo5(t, k, 2)[0] - 1
		}
		return bettiUpTo5(t, k, 2)[d]
	}
	for _, k := range homologyComplexes(t) {
		dual, code := impl.DualOf(k)
		if hasFace(k, allSet(k)) {
			continue
		}
		for i := int64(-1); i < k.Vertices; i++ {
			if code != impl.ErrNone || reduced(k, i) != reduced(dual, k.Vertices-3-i) {
				t.Fatalf("DualOf(%v) = %v, %d: the Betti numbers of %d differ", k, dual, code, i)
			}
		}
	}
}

// The rest of the guarantee.

func TestSuspensionsOfPseudomanifoldsArePseudomanifolds(t *testing.T) {
	seen := map[bool]int{}
	for _, k := range smallComplexes(4) {
		suspension, one := impl.SuspensionOf(k)
		before, two := impl.IsPseudomanifold(k)
		after, three := impl.IsPseudomanifold(suspension)
		seen[before]++
		// Without faces it is two vertices; otherwise it is one only if k is.
		if one != impl.ErrNone || two != impl.ErrNone || three != impl.ErrNone || after != (before || len(k.Faces) == 0) {
			t.Fatalf("%v: %v, %d; %v: %v, %d, %d", k, before, two, suspension, after, one, three)
		}
	}
	if seen[true] < 10 || seen[false] < 100 {
		t.Errorf("the samples are too few: %v", seen)
	}
}

func TestSuspensionsMoveBettiNumbers(t *testing.T) {
	for _, k := range smallComplexes(4) {
		suspension, code := impl.SuspensionOf(k)
		if len(k.Faces) == 0 {
			continue
		}
		before, after := bettiUpTo5(t, k, 3), bettiUpTo5(t, suspension, 3)
		if code != impl.ErrNone || after[0] != 1 || after[1] != before[0]-1 || !slices.Equal(after[2:], before[1:5]) {
			t.Fatalf("SuspensionOf(%v) = %v, %d: Betti numbers %v, %v", k, suspension, code, before, after)
		}
	}
}

// TestFlipsGoBack flips the missing face that has been put in: faces with two vertices and more come
// back; one with a single vertex does so if it is the least that is not there.
func TestFlipsGoBack(t *testing.T) {
	flipSamples(t, func(k impl.Complex, f int64) {
		flippers := flippersOf(k, f)
		flipped, code := impl.FlipOf(k, f)
		if len(flippers) == 0 || code != impl.ErrNone {
			return
		}
		back, code := impl.FlipOf(flipped, flippers[0])
		if code != impl.ErrNone || sizeOf(f) > 1 && !sameComplex(back, k) {
			t.Fatalf("FlipOf(%v, %d) = %v, and of this and %d: %v, %d", k, f, flipped, flippers[0], back, code)
		}
		if sizeOf(f) == 1 && sameComplex(back, k) != (flippersOf(flipped, flippers[0])[0] == f) {
			t.Fatalf("FlipOf(%v, %d) = %v, and of this and %d: %v", k, f, flipped, flippers[0], back)
		}
	})
}

// Duals, missing faces and suspensions.

func TestDualsAndMissingFacesByDefinition(t *testing.T) {
	for _, k := range collapseComplexes(t) {
		if got, code := impl.DualOf(k); code != impl.ErrNone || !sameComplex(got, dualByRule(k)) {
			t.Fatalf("DualOf(%v) = %v, %d", k, got, code)
		}
		want := chosen(k.Vertices, func(set int64) bool { return isMissingByRule(k, set) })
		if got, code := impl.MissingFaces(k); code != impl.ErrNone || !slices.Equal(got, want) {
			t.Fatalf("MissingFaces(%v) = %v, %d; want %v", k, got, code, want)
		}
	}
}

func TestDualOfExamples(t *testing.T) {
	for text, want := range map[string]string{
		"1:": "1:", "1:0": "1:", "2:": "2:0,1", "2:0": "2:0", "2:1": "2:1", "2:0,1": "2:", "2:01": "2:",
		"3:": "3:01,02,12", "3:012": "3:", "3:01,02,12": "3:", "3:0,1,2": "3:0,1,2", "3:01,2": "3:0,1", "3:0": "3:01,02",
		"4:01,12,23,03": "4:02,13", "4:02,13": "4:01,12,23,03", "4:012,013,023,123": "4:", "4:": "4:012,013,023,123", "4:0123": "4:",
		"4:012": "4:012", "4:012,13": "4:01,12", "5:01234": "5:", "6:012345": "6:",
		"6:01,23,45": "6:0124,0125,0134,0135,0234,0235,0245,0345,1234,1235,1245,1345", // the others of each missing edge
	} {
		if got, code := impl.DualOf(madeOf(t, text)); code != impl.ErrNone || !sameComplex(got, madeOf(t, want)) {
			t.Errorf("DualOf(%q) = %v, %d; want %q", text, got, code, want)
		}
	}
}

func TestMissingFacesExamples(t *testing.T) {
	for _, c := range []struct {
		text string
		want []int64
	}{
		{"1:", []int64{1}}, {"1:0", nil}, {"3:", []int64{1, 2, 4}}, {"6:", []int64{1, 2, 4, 8, 16, 32}}, // single vertices
		{"2:0", []int64{2}}, {"2:0,1", []int64{3}}, {"3:0,2", []int64{2, 5}}, {"3:0,1,2", []int64{3, 5, 6}},
		{"3:01,02,12", []int64{7}}, {"3:012", nil}, {"6:012345", nil}, {"4:012", []int64{8}}, {"4:01,02,12", []int64{7, 8}},
		{"4:01,12,23,03", []int64{5, 10}}, {"4:012,013,023,123", []int64{15}}, {"4:012,23", []int64{9, 10}}, {"4:01,02,12,3", []int64{7, 9, 10, 12}},
		{"6:024,025,034,035,124,125,134,135", []int64{3, 12, 48}}, {"5:013,014,023,024,123,124", []int64{7, 24}},
		{"6:01234,01235,01245,01345,02345,12345", []int64{63}},
	} {
		if got, code := impl.MissingFaces(madeOf(t, c.text)); code != impl.ErrNone || !slices.Equal(got, c.want) {
			t.Errorf("MissingFaces(%q) = %v, %d; want %v", c.text, got, code, c.want)
		}
	}
}

func TestSuspensionOfByDefinition(t *testing.T) {
	for _, k := range smallComplexes(4) {
		n := k.Vertices
		want := chosen(n+2, func(set int64) bool {
			low, high := set&(1<<n-1), set>>n
			return high != 3 && (low == 0 || hasFace(k, low))
		})
		if got, code := impl.SuspensionOf(k); code != impl.ErrNone || !sameComplex(got, complexOn(n+2, want...)) {
			t.Fatalf("SuspensionOf(%v) = %v, %d; want %v", k, got, code, want)
		}
	}
	for text, want := range map[string]string{"1:": "3:1,2", "4:": "6:4,5", "1:0": "3:01,02", "2:0,1": "4:02,03,12,13", "4:0123": "6:01234,01235", "3:1": "5:13,14"} {
		if got, code := impl.SuspensionOf(madeOf(t, text)); code != impl.ErrNone || !sameComplex(got, madeOf(t, want)) {
			t.Errorf("SuspensionOf(%q) = %v, %d; want %q", text, got, code, want)
		}
	}
}

// Pure complexes, pseudomanifolds and boundary complexes.

func TestKindsOfComplexesByDefinition(t *testing.T) {
	seen := map[[2]bool]int{}
	for _, k := range append(collapseComplexes(t), pureComplexes(t)...) {
		isPure, isPseudo := isPureByRule(k), isPseudomanifoldByRule(k)
		seen[[2]bool{isPure, isPseudo}]++
		if got, code := impl.IsPure(k); code != impl.ErrNone || got != isPure {
			t.Fatalf("IsPure(%v) = %v, %d", k, got, code)
		}
		if got, code := impl.IsPseudomanifold(k); code != impl.ErrNone || got != isPseudo {
			t.Fatalf("IsPseudomanifold(%v) = %v, %d", k, got, code)
		}
		want, wantCode := impl.Complex{}, int64(impl.ErrState)
		if isPure {
			want, wantCode = boundaryComplexByRule(k), impl.ErrNone
		}
		if got, code := impl.BoundaryComplex(k); code != wantCode || !sameComplex(got, want) {
			t.Fatalf("BoundaryComplex(%v) = %v, %d; want %v, %d", k, got, code, want, wantCode)
		}
	}
	if seen[[2]bool{true, true}] < 50 || seen[[2]bool{true, false}] < 500 || seen[[2]bool{false, false}] < 500 {
		t.Errorf("the samples are too few: %v", seen)
	}
}

func TestKindsOfComplexesExamples(t *testing.T) {
	for _, c := range []struct {
		text              string
		isPure, isPseudo  bool
		boundaryIfItsPure string
	}{
		{"1:", true, false, "1:"}, {"6:", true, false, "6:"}, // without faces
		{"1:0", true, false, "1:"}, {"6:3", true, false, "6:"}, {"2:0,1", true, true, "2:"}, {"6:1,5", true, true, "6:"}, {"3:0,1,2", true, false, "3:"}, // vertices
		{"2:01", true, false, "2:0,1"}, {"3:01,02", true, false, "3:1,2"}, {"3:01,2", false, false, ""}, {"3:0,12", false, false, ""},
		{"4:01,02,03", true, false, "4:1,2,3"}, {"4:01,12,23,03", true, true, "4:"}, {"3:01,02,12", true, true, "3:"}, {"6:01,02,12,34,35,45", true, true, "6:"},
		{"4:012,23", false, false, ""}, {"4:012,123", true, false, "4:01,02,13,23"}, {"3:012", true, false, "3:01,02,12"}, {"4:0123", true, false, "4:012,013,023,123"},
		{"5:012,123,234,034,014", true, false, "5:02,24,14,13,03"}, {"5:012,034", true, false, "5:01,02,12,03,04,34"},
		{"5:012,013,014", true, false, "5:02,12,03,13,04,14"}, // an edge in three facets
		{"5:012,013,014,023,024,034,123,124,134,234", true, false, "5:"}, {"6:012,023,034,045,015,124,235,134,245,135", true, true, "6:"},
		{"6:012345", true, false, "6:01234,01235,01245,01345,02345,12345"}, {"6:01234,01235,01245,01345,02345,12345", true, true, "6:"},
		{"5:012,013,023,123,34", false, false, ""}, {"6:012,013,023,123,4", false, false, ""}, // each side of the triangles is in two
		{"6:01,02,12,4", false, false, ""}, {"6:01,02,12,345", false, false, ""}, {"5:01,2,3", false, false, ""}, {"5:0,12,34", false, false, ""},
	} {
		k := madeOf(t, c.text)
		if got, code := impl.IsPure(k); code != impl.ErrNone || got != c.isPure {
			t.Errorf("IsPure(%q) = %v, %d", c.text, got, code)
		}
		if got, code := impl.IsPseudomanifold(k); code != impl.ErrNone || got != c.isPseudo {
			t.Errorf("IsPseudomanifold(%q) = %v, %d", c.text, got, code)
		}
		want, wantCode := impl.Complex{}, int64(impl.ErrState)
		if c.isPure {
			want, wantCode = madeOf(t, c.boundaryIfItsPure), impl.ErrNone
		}
		if got, code := impl.BoundaryComplex(k); code != wantCode || !sameComplex(got, want) {
			t.Errorf("BoundaryComplex(%q) = %v, %d; want %v, %d", c.text, got, code, want, wantCode)
		}
	}
}

// Flips.

func TestFlipOfByDefinition(t *testing.T) {
	seen := map[int]int{}
	middles := 0
	flipSamples(t, func(k impl.Complex, f int64) {
		want, wantCode := impl.Complex{}, int64(impl.ErrState)
		if flippers := flippersOf(k, f); len(flippers) > 0 {
			want, wantCode = flipByRule(k, f, flippers[0]), impl.ErrNone
			seen[int(sizeOf(flippers[0]))]++
			if len(flippers) > 1 {
				middles++
			}
		} else {
			seen[0]++
		}
		if got, code := impl.FlipOf(k, f); code != wantCode || !sameComplex(got, want) {
			t.Fatalf("FlipOf(%v, %d) = %v, %d; want %v, %d", k, f, got, code, want, wantCode)
		}
	})
	if seen[0] < 1000 || seen[1] < 100 || seen[2] < 100 || seen[3] < 100 || seen[4] < 5 || seen[5] < 1 || middles < 50 {
		t.Errorf("the samples are too few: %v, and %d with more than one middle", seen, middles)
	}
}

func TestFlipOfExamples(t *testing.T) {
	for _, c := range []struct {
		text string
		f    int64
		want string // empty if it can not be flipped
	}{
		{"5:013,014,023,024,123,124", 3, "5:023,123,024,124,034,134"}, {"5:023,123,024,124,034,134", 24, "5:013,014,023,024,123,124"},
		{"4:012,123", 6, "4:013,023"}, {"4:012,123,03", 6, ""}, // the edge 03 is there
		{"4:01,12,23", 2, "4:02,23"}, {"4:01,12,23,03", 1, "4:13,12,23"}, {"3:01,02,12", 1, ""}, {"3:01,02", 1, "3:12"}, // vertices
		{"4:01,02,03", 1, ""}, {"3:01,02", 2, ""}, {"3:01,02", 4, ""},
		{"3:01", 3, "3:02,12"}, {"3:12", 6, "3:01,02"}, {"4:12", 6, "4:01,02"}, // the middle; the least one of 0 and 3
		{"6:012", 7, "6:013,023,123"}, {"6:345", 56, "6:034,035,045"}, {"6:124", 22, "6:012,014,024"}, {"6:0124", 23, "6:0123,0134,0234,1234"},
		{"4:012,013,023,123", 7, ""}, {"5:012,013,023,123", 7, "5:014,024,124,013,023,123"}, {"5:012,013,023,123", 1, ""},
		{"6:012,013,023,123", 3, ""}, {"5:012,013,023", 1, "5:123"}, {"5:012,013,023", 2, ""}, {"5:123", 14, "5:012,013,023"},
		{"1:0", 1, ""}, {"2:0", 1, "2:1"}, {"2:1", 2, "2:0"}, {"6:5", 32, "6:0"}, {"6:0", 1, "6:1"}, {"2:0,1", 1, ""}, {"3:0,1", 2, "3:0,2"}, // vertices alone
		{"3:01,2", 4, ""}, {"4:01,2", 4, "4:01,3"}, {"4:01,2", 3, "4:03,13,2"}, {"4:01,2", 1, ""},
		{"5:0123,0124", 7, "5:0134,0234,1234"}, {"5:0134,0234,1234", 24, "5:0123,0124"}, {"5:0123,0124,34", 7, ""},
		{"6:0123,0124,0134,0234,1234", 1, ""}, {"6:0123,0124,0134,0234", 1, "6:1234"}, {"6:0123,0134,0124", 3, "6:0234,1234"}, {"6:0123,0134,0124,234", 3, ""},
		{"6:024,025,034,035,124,125,134,135", 1, ""}, {"6:024,025,034,035,124,125,134,135", 5, "6:034,035,045,124,125,134,135,245"}, {"6:024,025,034,035,124,125,134,135", 21, ""},
		{"6:012345", 63, ""}, {"6:012345", 1, ""}, {"6:012345", 7, ""}, {"5:01234", 31, ""}, {"6:01234", 31, "6:01235,01245,01345,02345,12345"},
		{"4:012,23", 8, ""}, {"4:012,23", 12, ""}, {"5:012,23", 12, "5:012,24,34"}, {"5:012,23", 4, ""},
	} {
		want, wantCode := impl.Complex{}, int64(impl.ErrState)
		if c.want != "" {
			want, wantCode = madeOf(t, c.want), impl.ErrNone
		}
		if got, code := impl.FlipOf(madeOf(t, c.text), c.f); code != wantCode || !sameComplex(got, want) {
			t.Errorf("FlipOf(%q, %d) = %v, %d; want %v, %d", c.text, c.f, got, code, want, wantCode)
		}
	}
}

// Numbers h.

func TestNumbersHByDefinition(t *testing.T) {
	negative := 0
	for _, k := range append(collapseComplexes(t), pureComplexes(t)...) {
		want := numbersHByRule(k)
		if slices.Min(want) < 0 {
			negative++
		}
		if got, code := impl.NumbersH(k); code != impl.ErrNone || !slices.Equal(got, want) {
			t.Fatalf("NumbersH(%v) = %v, %d; want %v", k, got, code, want)
		}
	}
	if negative < 1000 {
		t.Errorf("the samples are too few: %d with negative numbers", negative)
	}
}

func TestNumbersHExamples(t *testing.T) {
	for _, c := range []struct {
		text string
		want []int64
	}{
		{"1:", []int64{1}}, {"6:", []int64{1}}, {"1:0", []int64{1, 0}}, {"6:4", []int64{1, 0}}, {"3:0,1,2", []int64{1, 2}}, {"6:0,1,2,3,4,5", []int64{1, 5}},
		{"2:01", []int64{1, 0, 0}}, {"3:01,02,12", []int64{1, 1, 1}}, {"4:01,12,23,03", []int64{1, 2, 1}},
		{"4:01,23", []int64{1, 2, -1}}, {"6:01,23,45", []int64{1, 4, -2}}, {"3:01,2", []int64{1, 1, -1}}, {"6:01,2,3,4,5", []int64{1, 4, -4}}, // negative ones
		{"3:012", []int64{1, 0, 0, 0}}, {"4:012,013,023,123", []int64{1, 1, 1, 1}}, {"4:012,23", []int64{1, 1, -1, 0}}, {"6:012,345", []int64{1, 3, -3, 1}},
		{"6:024,025,034,035,124,125,134,135", []int64{1, 3, 3, 1}}, {"6:012,023,034,045,015,124,235,134,245,135", []int64{1, 3, 6, 0}},
		{"5:012,123,234,034,014", []int64{1, 2, 3, -1}}, {"6:012345", []int64{1, 0, 0, 0, 0, 0, 0}}, {"6:01234,01235,01245,01345,02345,12345", []int64{1, 1, 1, 1, 1, 1}},
		{"6:0123,4,5", []int64{1, 2, -6, 6, -2}},
	} {
		if got, code := impl.NumbersH(madeOf(t, c.text)); code != impl.ErrNone || !slices.Equal(got, c.want) {
			t.Errorf("NumbersH(%q) = %v, %d; want %v", c.text, got, code, c.want)
		}
	}
}

// Shellings.

func TestShellingsAndRestrictionsByDefinition(t *testing.T) {
	seen := map[bool]int{}
	orderSamples(t, func(k impl.Complex, order []int64) {
		want := isShellingByRule(k, order)
		seen[want]++
		if got, code := impl.IsShelling(k, order); code != impl.ErrNone || got != want {
			t.Fatalf("IsShelling(%v, %v) = %v, %d", k, order, got, code)
		}
		var wantList []int64
		wantCode := int64(impl.ErrState)
		if want {
			wantList, wantCode = restrictionsByRule(order), impl.ErrNone
		}
		if got, code := impl.RestrictionsOf(k, order); code != wantCode || !slices.Equal(got, wantList) {
			t.Fatalf("RestrictionsOf(%v, %v) = %v, %d; want %v, %d", k, order, got, code, wantList, wantCode)
		}
	})
	if seen[true] < 2000 || seen[false] < 2000 {
		t.Errorf("the samples are too few: %v", seen)
	}
}

func TestFirstShellingByDefinition(t *testing.T) {
	seen := map[int64]int{}
	for _, k := range pureComplexes(t) {
		facets := facetsByRule(k)
		var want []int64
		wantCode := int64(impl.ErrLimit)
		if len(facets) <= 12 {
			first, ok := firstShellingByRule(facets)
			want, wantCode = first, impl.ErrNotFound
			if ok {
				wantCode = impl.ErrNone
			}
		}
		seen[wantCode]++
		if got, code := impl.FirstShelling(k); code != wantCode || !slices.Equal(got, want) {
			t.Fatalf("FirstShelling(%v) = %v, %d; want %v, %d", k, got, code, want, wantCode)
		}
	}
	if seen[impl.ErrNone] < 1000 || seen[impl.ErrNotFound] < 200 || seen[impl.ErrLimit] < 5 {
		t.Errorf("the samples are too few: %v", seen)
	}
}

// TestFirstShellingAmongAllOrders compares with the least one of all orders that are shellings.
func TestFirstShellingAmongAllOrders(t *testing.T) {
	for _, k := range smallComplexes(4) {
		facets := facetsByRule(k)
		if !isPureByRule(k) {
			continue
		}
		var least []int64
		wantCode := int64(impl.ErrNotFound)
		for _, p := range permutations(int64(len(facets))) {
			var order []int64
			for _, place := range p {
				order = append(order, facets[place])
			}
			if isShellingByRule(k, order) && (wantCode == impl.ErrNotFound || slices.Compare(order, least) < 0) {
				least, wantCode = order, impl.ErrNone
			}
		}
		if got, code := impl.FirstShelling(k); code != wantCode || !slices.Equal(got, least) {
			t.Fatalf("FirstShelling(%v) = %v, %d; want %v, %d", k, got, code, least, wantCode)
		}
	}
}

func TestShellingExamples(t *testing.T) {
	for _, c := range []struct {
		text         string
		list         []int64
		restrictions []int64
		want         bool
	}{
		{"1:", nil, nil, true}, {"6:", []int64{}, nil, true}, // no facet
		{"1:0", []int64{1}, []int64{0}, true}, {"6:012345", []int64{63}, []int64{0}, true}, {"6:25", []int64{36}, []int64{0}, true}, // one facet
		{"3:0,1,2", []int64{4, 1, 2}, []int64{0, 1, 2}, true}, {"2:0,1", []int64{2, 1}, []int64{0, 1}, true}, // facets that are vertices
		{"4:01,12,23,03", []int64{3, 6, 12, 9}, []int64{0, 4, 8, 9}, true}, {"4:01,12,23,03", []int64{3, 6, 9, 12}, []int64{0, 4, 8, 12}, true},
		{"4:01,12,23,03", []int64{3, 12, 6, 9}, nil, false}, {"4:01,12,23,03", []int64{3, 12, 9, 6}, nil, false}, // the empty set in common
		{"4:01,23", []int64{3, 12}, nil, false}, {"4:01,23", []int64{12, 3}, nil, false}, {"3:01,12", []int64{6, 3}, []int64{0, 1}, true},
		{"5:012,034", []int64{7, 25}, nil, false}, {"6:012,345", []int64{7, 56}, nil, false}, // a vertex, or nothing, in common
		{"5:012,023,034", []int64{7, 25, 13}, nil, false}, {"5:012,023,034", []int64{7, 13, 25}, []int64{0, 8, 16}, true},
		{"5:012,023,034", []int64{13, 7, 25}, []int64{0, 2, 16}, true}, {"5:012,023,034", []int64{25, 13, 7}, []int64{0, 4, 2}, true},
		{"5:012,123,234,034,014", []int64{7, 14, 28, 25, 19}, nil, false}, // the last one has a vertex more in common
		{"4:012,013,023,123", []int64{14, 7, 13, 11}, []int64{0, 1, 9, 11}, true}, {"5:012,013,014", []int64{19, 7, 11}, []int64{0, 4, 8}, true},
	} {
		k := madeOf(t, c.text)
		if got, code := impl.IsShelling(k, c.list); code != impl.ErrNone || got != c.want {
			t.Errorf("IsShelling(%q, %v) = %v, %d", c.text, c.list, got, code)
		}
		wantCode := int64(impl.ErrState)
		if c.want {
			wantCode = impl.ErrNone
		}
		if got, code := impl.RestrictionsOf(k, c.list); code != wantCode || !slices.Equal(got, c.restrictions) {
			t.Errorf("RestrictionsOf(%q, %v) = %v, %d; want %v", c.text, c.list, got, code, c.restrictions)
		}
	}
}

func TestFirstShellingExamples(t *testing.T) {
	for _, c := range []struct {
		text string
		want []int64
		code int64
	}{
		{"1:", nil, impl.ErrNone}, {"6:", nil, impl.ErrNone}, {"1:0", []int64{1}, impl.ErrNone}, {"6:5", []int64{32}, impl.ErrNone},
		{"6:012345", []int64{63}, impl.ErrNone}, {"3:0,1,2", []int64{1, 2, 4}, impl.ErrNone}, {"6:0,1,2,3,4,5", []int64{1, 2, 4, 8, 16, 32}, impl.ErrNone},
		{"4:01,12,23,03", []int64{3, 6, 9, 12}, impl.ErrNone}, {"4:01,23", nil, impl.ErrNotFound}, {"6:01,12,34,45", nil, impl.ErrNotFound},
		{"4:01,23,03", []int64{3, 9, 12}, impl.ErrNone}, {"4:01,23,12", []int64{3, 6, 12}, impl.ErrNone},
		{"5:01,04,23,24", []int64{3, 17, 20, 12}, impl.ErrNone}, {"5:01,04,23,34", []int64{3, 17, 24, 12}, impl.ErrNone}, // 12 has to wait
		{"5:012,034", nil, impl.ErrNotFound}, {"5:012,123,234,034,014", nil, impl.ErrNotFound}, {"6:012,023,034,045,015,124,235,134,245,135", nil, impl.ErrNotFound},
		{"6:024,025,034,035,124,125,134,135", []int64{21, 22, 25, 26, 37, 38, 41, 42}, impl.ErrNone},
		{"3:01,2", nil, impl.ErrState}, {"4:012,23", nil, impl.ErrState}, {"6:0,12345", nil, impl.ErrState},
	} {
		if got, code := impl.FirstShelling(madeOf(t, c.text)); code != c.code || !slices.Equal(got, c.want) {
			t.Errorf("FirstShelling(%q) = %v, %d; want %v, %d", c.text, got, code, c.want, c.code)
		}
	}
}

// TestTwelveFacetsAndMore takes graphs and triangles with 11 to 20 facets, that can be shelled and
// that can not: the limit holds for both, and for FirstShelling alone.
func TestTwelveFacetsAndMore(t *testing.T) {
	edges := chosen(6, func(set int64) bool { return sizeOf(set) == 2 })
	triangles := chosen(6, func(set int64) bool { return sizeOf(set) == 3 })
	for _, all := range [][]int64{edges, triangles} {
		for count := 11; count <= len(all); count++ {
			k, made := impl.ComplexOf(6, all[:count])
			got, code := impl.FirstShelling(k)
			if want, _ := firstShellingByRule(all[:min(count, 12)]); made != impl.ErrNone || count <= 12 && (code != impl.ErrNone || !slices.Equal(got, want)) {
				t.Errorf("FirstShelling of %d facets = %v, %d; want %v", count, got, code, want)
			}
			if count > 12 && (code != impl.ErrLimit || len(got) > 0) {
				t.Errorf("FirstShelling of %d facets = %v, %d", count, got, code)
			}
			if yes, code := impl.IsShelling(k, all[:count]); code != impl.ErrNone || yes != isShellingByRule(k, all[:count]) {
				t.Errorf("IsShelling of %d facets = %v, %d", count, yes, code)
			}
		}
	}
	for text, want := range map[string]int64{
		"6:012,013,014,015,023,024,025,034,035,045,123,345": impl.ErrNone, "6:012,013,014,015,023,024,025,034,035,045,123,345,124": impl.ErrLimit,
		"6:012,013,023,123,014,024,034,124,134,234,035,045": impl.ErrNone,
		// The triangles 015 and 235 have the vertex 5 alone in common, and no other one has it.
		"6:012,013,023,123,014,024,034,124,134,234,015,235": impl.ErrNotFound, "6:012,013,023,123,014,024,034,124,134,234,015,235,345": impl.ErrLimit,
		"6:012,023,034,045,015,124,235,134,245,135,013,024": impl.ErrNone, "6:012,023,034,045,015,124,235,134,245,135,01,02": impl.ErrNotFound, // with ten facets
	} {
		k := madeOf(t, text)
		first, ok := []int64(nil), false
		if want != impl.ErrLimit {
			first, ok = firstShellingByRule(facetsByRule(k))
		}
		if got, code := impl.FirstShelling(k); code != want || ok != (want == impl.ErrNone) || !slices.Equal(got, first) {
			t.Errorf("FirstShelling(%q) = %v, %d; want %v, %d", text, got, code, first, want)
		}
	}
}

// TestLimitComesBehindPurity takes complexes with more than 12 facets that are not pure, which can
// have six vertices only.
func TestLimitComesBehindPurity(t *testing.T) {
	edges := skeleton(6, 1)
	k, code := impl.ComplexOf(6, append(slices.Clone(edges.Faces), 7))
	if facets := facetsByRule(k); code != impl.ErrNone || len(facets) != 13 || isPureByRule(k) {
		t.Fatalf("%v has the facets %v", k, facets)
	}
	if got, code := impl.FirstShelling(k); code != impl.ErrState || len(got) > 0 {
		t.Errorf("FirstShelling(%v) = %v, %d", k, got, code)
	}
}
