package tests

import (
	"slices"
	"testing"

	"loop.example/g01348/impl"
)

// Promise 5.

func TestStrongCollapsesKeepEulerNumbers(t *testing.T) {
	for _, k := range collapseComplexes(t) {
		core, deleted, code := impl.CoreOf(k)
		if code != impl.ErrNone || !impl.IsComplex(core) || core.Vertices != k.Vertices {
			t.Fatalf("CoreOf(%v) = %v, %v, %d", k, core, deleted, code)
		}
		if eulerOf(t, core) != eulerOf(t, k) || eulerByRule(core) != eulerByRule(k) {
			t.Fatalf("CoreOf(%v) = %v: Euler numbers %d, %d", k, core, eulerOf(t, k), eulerOf(t, core))
		}
		left := k
		for _, v := range deleted { // each of the steps keeps it, too
			before := eulerOf(t, left)
			left, code = impl.DeleteVertex(left, v)
			if code != impl.ErrNone || eulerOf(t, left) != before {
				t.Fatalf("CoreOf(%v) = %v: %d leads to %v, %d", k, deleted, v, left, code)
			}
		}
		if !sameComplex(left, core) {
			t.Fatalf("CoreOf(%v) = %v, %v; deleting leads to %v", k, core, deleted, left)
		}
	}
}

func TestNoFreePairIsLeftAfterACollapse(t *testing.T) {
	for _, k := range collapseComplexes(t) {
		left, pairs, one := impl.CollapseOf(k)
		free, two := impl.FreePairs(left)
		if one != impl.ErrNone || two != impl.ErrNone || len(free) > 0 || len(freeByRule(left)) > 0 {
			t.Fatalf("CollapseOf(%v) = %v, %v, %d: free pairs %v, %d", k, left, pairs, one, free, two)
		}
		if left.Vertices != k.Vertices || len(left.Faces)+2*len(pairs) != len(k.Faces) || len(left.Faces) == 0 && len(k.Faces) > 0 {
			t.Fatalf("CollapseOf(%v) = %v, %v", k, left, pairs)
		}
		if eulerOf(t, left) != eulerOf(t, k) {
			t.Fatalf("CollapseOf(%v) = %v: Euler numbers %d, %d", k, left, eulerOf(t, k), eulerOf(t, left))
		}
	}
}

func TestOnlyKeptFreePairsAreLeftAfterACollapse(t *testing.T) {
	partSamples(t, func(k, l impl.Complex) {
		left, pairs, one := impl.CollapseKeeping(k, l)
		free, two := impl.FreePairs(left)
		if one != impl.ErrNone || two != impl.ErrNone || !isPartOf(left, l) || !isPartOf(k, left) {
			t.Fatalf("CollapseKeeping(%v, %v) = %v, %v, %d", k, l, left, pairs, one)
		}
		for _, p := range free {
			if !hasFace(l, p[0]) && !hasFace(l, p[1]) {
				t.Fatalf("CollapseKeeping(%v, %v) = %v has the free pair %v", k, l, left, p)
			}
		}
	})
}

// Promise 15.

func TestCollapsesKeepBettiNumbers(t *testing.T) {
	for _, k := range collapseComplexes(t) {
		left, _, one := impl.CollapseOf(k)
		core, _, two := impl.CoreOf(k)
		if one != impl.ErrNone || two != impl.ErrNone {
			t.Fatalf("%v: codes %d, %d", k, one, two)
		}
		for _, p := range []int64{2, 3} {
			want := bettiUpTo5(t, k, p)
			if got, strong := bettiUpTo5(t, left, p), bettiUpTo5(t, core, p); got != want || strong != want {
				t.Fatalf("%v for %d: %v; after the collapse %v, of the core %v", k, p, want, got, strong)
			}
		}
	}
}

func TestCollapsesOfOnePairAndThoseThatKeepAPartKeepBettiNumbers(t *testing.T) {
	for _, k := range homologyComplexes(t) {
		for _, pair := range freeByRule(k) {
			left, code := impl.CollapsePair(k, pair[0])
			if code != impl.ErrNone || bettiUpTo5(t, left, 2) != bettiUpTo5(t, k, 2) || bettiUpTo5(t, left, 3) != bettiUpTo5(t, k, 3) {
				t.Fatalf("CollapsePair(%v, %d) = %v, %d", k, pair[0], left, code)
			}
		}
	}
	partSamples(t, func(k, l impl.Complex) {
		left, _, code := impl.CollapseKeeping(k, l)
		if code != impl.ErrNone || bettiUpTo5(t, left, 2) != bettiUpTo5(t, k, 2) || bettiUpTo5(t, left, 3) != bettiUpTo5(t, k, 3) {
			t.Fatalf("CollapseKeeping(%v, %v) = %v, %d", k, l, left, code)
		}
	})
}

func TestReductionsHaveAtLeastAsManyCriticalFacesAsBettiNumbersTell(t *testing.T) {
	more := 0
	for _, k := range collapseComplexes(t) {
		_, critical, code := impl.ReductionOf(k)
		if code != impl.ErrNone {
			t.Fatalf("ReductionOf(%v): code %d", k, code)
		}
		var counts [impl.MaxVertices]int64
		for _, f := range critical {
			counts[sizeOf(f)-1]++
		}
		for _, p := range []int64{2, 3} {
			numbers := bettiUpTo5(t, k, p)
			for d, count := range counts {
				if count < numbers[d] {
					t.Fatalf("ReductionOf(%v) has the critical faces %v; Betti numbers for %d: %v", k, critical, p, numbers)
				}
			}
			if counts != numbers {
				more++
			}
		}
	}
	if more == 0 { // that of the projective plane has more than the Betti numbers for 3
		t.Errorf("no reduction has more critical faces than Betti numbers tell")
	}
}

// The rest of the guarantee.

func TestCoresOfConesAreOneVertex(t *testing.T) {
	for _, k := range append(smallComplexes(4), allComplexes(5)...) {
		cone, one := impl.ConeOf(k)
		core, deleted, two := impl.CoreOf(cone)
		if one != impl.ErrNone || two != impl.ErrNone || len(core.Faces) != 1 || sizeOf(core.Faces[0]) != 1 {
			t.Fatalf("CoreOf(%v) = %v, %v, %d, %d", cone, core, deleted, one, two)
		}
		if collapsible, code := impl.IsCollapsible(cone); code != impl.ErrNone || !collapsible {
			t.Fatalf("IsCollapsible(%v) = %v, %d", cone, collapsible, code)
		}
	}
}

func TestPairsAndCriticalFacesOfReductionsAreAllFaces(t *testing.T) {
	for _, k := range collapseComplexes(t) {
		pairs, critical, one := impl.ReductionOf(k)
		all := slices.Clone(critical)
		var list []impl.Pair
		for _, p := range pairs {
			all = append(all, p[0], p[1])
			list = insertPair(list, p)
		}
		slices.Sort(all)
		if one != impl.ErrNone || !slices.Equal(all, k.Faces) {
			t.Fatalf("ReductionOf(%v) = %v, %v, %d", k, pairs, critical, one)
		}
		acyclic, two := impl.IsAcyclicPairing(k, list)
		if two != impl.ErrNone || !acyclic {
			t.Fatalf("ReductionOf(%v) = %v: acyclic %v, %d", k, pairs, acyclic, two)
		}
	}
	for _, k := range homologyComplexes(t) {
		var list []impl.Pair
		pairs, _, _ := impl.ReductionOf(k)
		for _, p := range pairs {
			list = insertPair(list, p)
		}
		if !isPairingOf(k, list) || len(facesOnCyclesOf(k, list)) > 0 {
			t.Fatalf("ReductionOf(%v) = %v is no acyclic pairing", k, pairs)
		}
	}
}

// Free faces and pairs.

func TestFreePairsAndFacesByDefinition(t *testing.T) {
	for _, k := range collapseComplexes(t) {
		want := freeByRule(k)
		if got, code := impl.FreePairs(k); code != impl.ErrNone || !slices.Equal(got, want) {
			t.Fatalf("FreePairs(%v) = %v, %d; want %v", k, got, code, want)
		}
		for _, p := range want {
			if sizeOf(p[1]) != sizeOf(p[0])+1 || len(facesAround(k, p[1])) > 0 {
				t.Fatalf("%v of %v: the high face is no facet with one vertex more", p, k)
			}
		}
		for f := int64(-1); f <= 1<<k.Vertices; f++ {
			checkFreeFace(t, k, f, want)
		}
	}
}

// checkFreeFace checks what is told of a number, and what collapsing its free pair leads to, for
// the free pairs of k.
func checkFreeFace(t *testing.T, k impl.Complex, f int64, free []impl.Pair) {
	t.Helper()
	place := slices.IndexFunc(free, func(p impl.Pair) bool { return p[0] == f })
	asked, collapsed, want := int64(impl.ErrNone), int64(impl.ErrNone), impl.Complex{}
	switch {
	case !hasFace(k, f):
		asked, collapsed = impl.ErrRange, impl.ErrRange
	case place < 0:
		collapsed = impl.ErrState
	default:
		want = leaving(k, free[place][0], free[place][1])
	}
	if yes, code := impl.IsFreeFace(k, f); code != asked || yes != (place >= 0) {
		t.Fatalf("IsFreeFace(%v, %d) = %v, %d; want %v, %d", k, f, yes, code, place >= 0, asked)
	}
	if got, code := impl.CollapsePair(k, f); code != collapsed || !sameComplex(got, want) {
		t.Fatalf("CollapsePair(%v, %d) = %v, %d; want %v, %d", k, f, got, code, want, collapsed)
	}
}

func TestFreePairsExamples(t *testing.T) {
	for _, c := range []struct {
		text string
		want []impl.Pair
	}{
		{"1:", nil}, {"6:", nil}, {"1:0", nil}, {"6:5", nil}, {"3:0,1,2", nil},
		{"2:01", []impl.Pair{{1, 3}, {2, 3}}}, // both vertices of an edge are free
		{"3:01,2", []impl.Pair{{1, 3}, {2, 3}}}, {"6:35", []impl.Pair{{8, 40}, {32, 40}}},
		{"3:012", []impl.Pair{{3, 7}, {5, 7}, {6, 7}}}, // its vertices are in three other faces
		{"4:012,23", []impl.Pair{{3, 7}, {5, 7}, {6, 7}, {8, 12}}},
		{"4:012,123", []impl.Pair{{3, 7}, {5, 7}, {10, 14}, {12, 14}}}, // 12 is in two facets
		{"5:012,013,014", []impl.Pair{{5, 7}, {6, 7}, {9, 11}, {10, 11}, {17, 19}, {18, 19}}},
		{"6:0123,34,45", []impl.Pair{{7, 15}, {11, 15}, {13, 15}, {14, 15}, {32, 48}}}, // facets of dimensions 3 and 1
		{"6:0123,134,45", []impl.Pair{{7, 15}, {11, 15}, {13, 15}, {14, 15}, {18, 26}, {24, 26}, {32, 48}}},
		{"6:01,2,345", []impl.Pair{{1, 3}, {2, 3}, {24, 56}, {40, 56}, {48, 56}}},
		{"3:01,02,12", nil}, {"4:012,013,023,123", nil}, {"5:01,02,12,34", []impl.Pair{{8, 24}, {16, 24}}},
	} {
		if got, code := impl.FreePairs(madeOf(t, c.text)); code != impl.ErrNone || !slices.Equal(got, c.want) {
			t.Errorf("FreePairs(%q) = %v, %d; want %v", c.text, got, code, c.want)
		}
	}
}

// TestFreeFacesOfAllSets looks at the simplex, whose free faces are those with one vertex less.
func TestFreeFacesOfAllSets(t *testing.T) {
	for n := int64(2); n <= impl.MaxVertices; n++ {
		k, all := fullComplex(n), int64(1)<<n-1
		for f := int64(1); f <= all; f++ {
			free := sizeOf(f) == n-1
			if yes, code := impl.IsFreeFace(k, f); code != impl.ErrNone || yes != free {
				t.Errorf("IsFreeFace of %d among %d vertices = %v, %d", f, n, yes, code)
			}
			got, code := impl.CollapsePair(k, f)
			if free && (code != impl.ErrNone || !sameComplex(got, leaving(k, f, all))) || !free && code != impl.ErrState {
				t.Errorf("CollapsePair of %d among %d vertices = %v, %d", f, n, got, code)
			}
		}
	}
}

func TestCollapsePairExamples(t *testing.T) {
	for _, c := range []struct {
		text string
		f    int64
		want string
		code int64
	}{
		{"2:01", 1, "2:1", impl.ErrNone}, {"2:01", 2, "2:0", impl.ErrNone}, {"2:01", 3, "", impl.ErrState},
		{"1:0", 1, "", impl.ErrState}, {"3:0,1,2", 2, "", impl.ErrState}, // in no other face
		{"3:01,02", 1, "", impl.ErrState}, {"3:01,02", 4, "3:01", impl.ErrNone},
		{"4:012,23", 3, "4:02,12,23", impl.ErrNone}, {"4:012,23", 5, "4:01,12,23", impl.ErrNone}, {"4:012,23", 6, "4:01,02,23", impl.ErrNone},
		{"4:012,23", 8, "4:012", impl.ErrNone}, {"4:012,23", 4, "", impl.ErrState}, {"4:012,23", 7, "", impl.ErrState},
		{"4:012,23", 12, "", impl.ErrState}, {"4:012,23", 9, "", impl.ErrRange},
		{"4:0123", 14, "4:013,023,012", impl.ErrNone}, {"4:012,013,023,123", 3, "", impl.ErrState}, {"6:01,2,345", 48, "6:2,01,34,35", impl.ErrNone},
	} {
		want := impl.Complex{}
		if c.code == impl.ErrNone {
			want = madeOf(t, c.want)
		}
		if got, code := impl.CollapsePair(madeOf(t, c.text), c.f); code != c.code || !sameComplex(got, want) {
			t.Errorf("CollapsePair(%q, %d) = %v, %d; want %q, %d", c.text, c.f, got, code, c.want, c.code)
		}
	}
}

// Collapses.

func TestCollapseOfByDefinition(t *testing.T) {
	for _, k := range collapseComplexes(t) {
		want, wantPairs := collapseByRule(k, complexOn(k.Vertices))
		if got, pairs, code := impl.CollapseOf(k); code != impl.ErrNone || !sameComplex(got, want) || !slices.Equal(pairs, wantPairs) {
			t.Fatalf("CollapseOf(%v) = %v, %v, %d; want %v, %v", k, got, pairs, code, want, wantPairs)
		}
	}
}

func TestCollapseOfExamples(t *testing.T) {
	for _, c := range []struct {
		text, want string
		pairs      []impl.Pair
	}{
		{"1:", "1:", nil}, {"6:", "6:", nil}, {"1:0", "1:0", nil}, {"6:3", "6:3", nil}, {"3:0,1,2", "3:0,1,2", nil},
		{"2:01", "2:1", []impl.Pair{{1, 3}}}, {"6:25", "6:5", []impl.Pair{{4, 36}}},
		{"3:012", "3:2", []impl.Pair{{3, 7}, {1, 5}, {2, 6}}},
		{"4:012,23", "4:3", []impl.Pair{{3, 7}, {1, 5}, {2, 6}, {4, 12}}},
		{"4:0123", "4:3", []impl.Pair{{7, 15}, {3, 11}, {5, 13}, {1, 9}, {6, 14}, {2, 10}, {4, 12}}},
		{"3:01,02,12", "3:01,02,12", nil}, {"4:012,013,023,123", "4:012,013,023,123", nil},
		{"5:01,02,12,23,34", "5:01,02,12", []impl.Pair{{16, 24}, {8, 12}}},
		{"5:01,02,12,34", "5:01,02,12,4", []impl.Pair{{8, 24}}},
		{"6:01,23,45", "6:1,3,5", []impl.Pair{{1, 3}, {4, 12}, {16, 48}}},
		{"5:012,013,023,123,34", "5:012,013,023,123", []impl.Pair{{16, 24}}},
	} {
		got, pairs, code := impl.CollapseOf(madeOf(t, c.text))
		if code != impl.ErrNone || !sameComplex(got, madeOf(t, c.want)) || !slices.Equal(pairs, c.pairs) {
			t.Errorf("CollapseOf(%q) = %v, %v, %d; want %q, %v", c.text, got, pairs, code, c.want, c.pairs)
		}
	}
	if got, pairs, code := impl.CollapseOf(fullComplex(6)); code != impl.ErrNone || !sameComplex(got, complexOn(6, 32)) || len(pairs) != 31 {
		t.Errorf("CollapseOf of all faces = %v, %v, %d", got, pairs, code)
	}
}

func TestIsCollapsibleByTryingAllPairs(t *testing.T) {
	seen := map[bool]int{}
	for n := int64(1); n <= 5; n++ {
		known := map[word]bool{}
		for _, k := range allComplexes(n) {
			want := leadsToOneVertex(k, known)
			seen[want]++
			if got, code := impl.IsCollapsible(k); code != impl.ErrNone || got != want {
				t.Fatalf("IsCollapsible(%v) = %v, %d; want %v", k, got, code, want)
			}
		}
	}
	if seen[true] < 1000 || seen[false] < 1000 {
		t.Errorf("the samples are too few: %v", seen)
	}
}

// TestIsCollapsibleOfSixVertices tries all pairs only where a collapse to a vertex is not ruled out
// by the Betti numbers, as these stay.
func TestIsCollapsibleOfSixVertices(t *testing.T) {
	seen := map[bool]int{}
	known := map[word]bool{}
	for _, k := range append(someComplexes(t, 6, 600), fullComplex(6), named(t, "projective"), named(t, "octahedron"), complexOn(6)) {
		want := bettiUpTo5(t, k, 2) == bettiUpTo5(t, complexOn(1, 1), 2) && leadsToOneVertex(k, known)
		seen[want]++
		if got, code := impl.IsCollapsible(k); code != impl.ErrNone || got != want {
			t.Fatalf("IsCollapsible(%v) = %v, %d; want %v", k, got, code, want)
		}
	}
	if seen[true] < 100 || seen[false] < 100 {
		t.Errorf("the samples are too few: %v", seen)
	}
}

func TestIsCollapsibleExamples(t *testing.T) {
	for text, want := range map[string]bool{
		"1:": false, "6:": false, "1:0": true, "6:4": true, "2:0,1": false, "6:0,5": false, "2:01": true, "3:01,2": false,
		"6:01,12,23,34,45": true, "6:01,23,45": false, "3:01,02,12": false, "4:012,013,023": true, "4:012,013,023,123": false,
		"6:012345": true, "6:01234,12345": true, "6:01234,5": false, "5:012,34": false, "5:012,23,34": true, "5:012,24,34,23": false,
	} {
		if got, code := impl.IsCollapsible(madeOf(t, text)); code != impl.ErrNone || got != want {
			t.Errorf("IsCollapsible(%q) = %v, %d; want %v", text, got, code, want)
		}
	}
}

// Collapses that keep a part.

func TestCollapseKeepingByDefinition(t *testing.T) {
	partSamples(t, func(k, l impl.Complex) {
		want, wantPairs := collapseByRule(k, l)
		if got, pairs, code := impl.CollapseKeeping(k, l); code != impl.ErrNone || !sameComplex(got, want) || !slices.Equal(pairs, wantPairs) {
			t.Fatalf("CollapseKeeping(%v, %v) = %v, %v, %d; want %v, %v", k, l, got, pairs, code, want, wantPairs)
		}
	})
}

func TestCollapseKeepingAllOrNothing(t *testing.T) {
	for _, k := range collapseComplexes(t) {
		whole, none, one := impl.CollapseKeeping(k, k)
		if one != impl.ErrNone || !sameComplex(whole, k) || len(none) > 0 {
			t.Fatalf("CollapseKeeping(%v) all of it = %v, %v, %d", k, whole, none, one)
		}
		left, pairs, two := impl.CollapseKeeping(k, complexOn(k.Vertices))
		want, wantPairs, three := impl.CollapseOf(k)
		if two != impl.ErrNone || three != impl.ErrNone || !sameComplex(left, want) || !slices.Equal(pairs, wantPairs) {
			t.Fatalf("CollapseKeeping(%v) nothing = %v, %v, %d; want %v, %v", k, left, pairs, two, want, wantPairs)
		}
	}
}

func TestCollapseKeepingExamples(t *testing.T) {
	for _, c := range []struct {
		text, kept, want string
		pairs            []impl.Pair
	}{
		{"6:", "6:", "6:", nil}, {"1:0", "1:", "1:0", nil}, {"1:0", "1:0", "1:0", nil},
		{"2:01", "2:0", "2:0", []impl.Pair{{2, 3}}}, {"2:01", "2:1", "2:1", []impl.Pair{{1, 3}}},
		{"2:01", "2:0,1", "2:01", nil}, {"2:01", "2:01", "2:01", nil},
		{"4:012,23", "4:01,2", "4:01,12", []impl.Pair{{5, 7}, {8, 12}}},
		{"4:012,23", "4:3", "4:3", []impl.Pair{{3, 7}, {1, 5}, {2, 6}, {4, 12}}},
		{"4:012,23", "4:0", "4:0", []impl.Pair{{3, 7}, {2, 6}, {8, 12}, {4, 5}}},
		{"4:012,23", "4:01,02,12", "4:012", []impl.Pair{{8, 12}}}, // no edge of 012 may go
		{"3:012", "3:01,02", "3:01,02", []impl.Pair{{6, 7}}},
		{"5:01,02,12,34", "5:3", "5:01,02,12,3", []impl.Pair{{16, 24}}}, // a part in another component
		{"6:012,345", "6:0", "6:0,5", []impl.Pair{{3, 7}, {2, 6}, {4, 5}, {24, 56}, {8, 40}, {16, 48}}},
	} {
		got, pairs, code := impl.CollapseKeeping(madeOf(t, c.text), madeOf(t, c.kept))
		if code != impl.ErrNone || !sameComplex(got, madeOf(t, c.want)) || !slices.Equal(pairs, c.pairs) {
			t.Errorf("CollapseKeeping(%q, %q) = %v, %v, %d; want %q, %v", c.text, c.kept, got, pairs, code, c.want, c.pairs)
		}
	}
}

// Dominated vertices and cores.

func TestDominatedAndDeletedVerticesByDefinition(t *testing.T) {
	for _, k := range collapseComplexes(t) {
		want := dominatedByRule(k)
		if got, code := impl.DominatedVertices(k); code != impl.ErrNone || !slices.Equal(got, want) {
			t.Fatalf("DominatedVertices(%v) = %v, %d; want %v", k, got, code, want)
		}
		for v := range k.Vertices {
			want := leaving(k, facesWithVertex(k, v)...)
			if got, code := impl.DeleteVertex(k, v); code != impl.ErrNone || !sameComplex(got, want) {
				t.Fatalf("DeleteVertex(%v, %d) = %v, %d; want %v", k, v, got, code, want)
			}
		}
	}
}

func TestDominatedVerticesExamples(t *testing.T) {
	for _, c := range []struct {
		text string
		want []int64
	}{
		{"1:", nil}, {"6:", nil}, {"1:0", nil}, {"6:0", nil}, {"6:5", nil}, {"4:0,1,2,3", nil},
		{"2:01", []int64{0, 1}}, {"6:05", []int64{0, 5}}, // they dominate each other
		{"3:01,2", []int64{0, 1}}, {"3:01,12", []int64{0, 2}}, {"3:012", []int64{0, 1, 2}}, {"3:01,02,12", nil},
		{"4:012,23", []int64{0, 1, 3}}, {"4:012,123", []int64{0, 1, 2, 3}}, {"4:013,023,12", []int64{0, 3}},
		{"4:01,12,23,03", nil}, {"4:012,013,023,123", nil}, {"6:01,2,345", []int64{0, 1, 3, 4, 5}},
		{"5:012,013,014", []int64{0, 1, 2, 3, 4}}, {"5:012,023,034,014", []int64{1, 2, 3, 4}},
	} {
		if got, code := impl.DominatedVertices(madeOf(t, c.text)); code != impl.ErrNone || !slices.Equal(got, c.want) {
			t.Errorf("DominatedVertices(%q) = %v, %d; want %v", c.text, got, code, c.want)
		}
	}
}

func TestDeleteVertexExamples(t *testing.T) {
	for _, c := range []struct {
		text string
		v    int64
		want string
	}{
		{"1:", 0, "1:"}, {"6:", 0, "6:"}, {"6:", 5, "6:"}, {"1:0", 0, "1:"}, {"6:5", 5, "6:"}, {"6:5", 0, "6:5"},
		{"4:012", 3, "4:012"}, // a vertex that is not there
		{"4:012,23", 2, "4:01,3"}, {"4:012,23", 3, "4:012"}, {"4:012,23", 0, "4:12,23"}, {"3:0,1,2", 1, "3:0,2"},
		{"6:012345", 0, "6:12345"}, {"6:012345", 5, "6:01234"},
	} {
		if got, code := impl.DeleteVertex(madeOf(t, c.text), c.v); code != impl.ErrNone || !sameComplex(got, madeOf(t, c.want)) {
			t.Errorf("DeleteVertex(%q, %d) = %v, %d; want %q", c.text, c.v, got, code, c.want)
		}
	}
}

func TestCoreOfByDefinition(t *testing.T) {
	for _, k := range collapseComplexes(t) {
		want, wantDeleted := coreByRule(k)
		if got, deleted, code := impl.CoreOf(k); code != impl.ErrNone || !sameComplex(got, want) || !slices.Equal(deleted, wantDeleted) {
			t.Fatalf("CoreOf(%v) = %v, %v, %d; want %v, %v", k, got, deleted, code, want, wantDeleted)
		}
	}
}

func TestCoreOfExamples(t *testing.T) {
	for _, c := range []struct {
		text, want string
		deleted    []int64
	}{
		{"1:", "1:", nil}, {"6:", "6:", nil}, {"1:0", "1:0", nil}, {"6:3", "6:3", nil}, {"3:0,1,2", "3:0,1,2", nil},
		{"2:01", "2:1", []int64{0}}, // of two that dominate each other the least one goes
		{"4:012,23", "4:3", []int64{0, 1, 2}}, {"3:01,12", "3:2", []int64{0, 1}}, {"6:01,2,345", "6:1,2,5", []int64{0, 3, 4}},
		{"3:01,02,12", "3:01,02,12", nil}, {"5:01,02,12,23,34", "5:01,02,12", []int64{4, 3}},
		{"6:012345", "6:5", []int64{0, 1, 2, 3, 4}}, {"4:12,23", "4:3", []int64{1, 2}},
		// Deleting 1 makes 0 dominated, which comes ahead of the others.
		{"5:012,023,034,014", "5:4", []int64{1, 0, 2, 3}},
	} {
		got, deleted, code := impl.CoreOf(madeOf(t, c.text))
		if code != impl.ErrNone || !sameComplex(got, madeOf(t, c.want)) || !slices.Equal(deleted, c.deleted) {
			t.Errorf("CoreOf(%q) = %v, %v, %d; want %q, %v", c.text, got, deleted, code, c.want, c.deleted)
		}
	}
}

// Reductions.

func TestReductionOfByDefinition(t *testing.T) {
	for _, k := range collapseComplexes(t) {
		wantPairs, want := reductionByRule(k)
		if pairs, critical, code := impl.ReductionOf(k); code != impl.ErrNone || !slices.Equal(pairs, wantPairs) || !slices.Equal(critical, want) {
			t.Fatalf("ReductionOf(%v) = %v, %v, %d; want %v, %v", k, pairs, critical, code, wantPairs, want)
		}
	}
}

func TestReductionOfExamples(t *testing.T) {
	for _, c := range []struct {
		text     string
		pairs    []impl.Pair
		critical []int64
	}{
		{"1:", nil, nil}, {"6:", nil, nil}, {"1:0", nil, []int64{1}}, {"6:3", nil, []int64{8}},
		{"3:0,1,2", nil, []int64{4, 2, 1}}, // the greatest number first
		{"2:01", []impl.Pair{{1, 3}}, []int64{2}}, {"3:01,2", []impl.Pair{{1, 3}}, []int64{4, 2}},
		{"3:01,02,12", []impl.Pair{{2, 3}, {1, 5}}, []int64{6, 4}},
		{"4:012,013,023,123", []impl.Pair{{6, 7}, {3, 11}, {2, 10}, {5, 13}, {1, 9}, {4, 12}}, []int64{14, 8}},
		{"5:01,02,12,34", []impl.Pair{{8, 24}, {2, 3}, {1, 5}}, []int64{6, 16, 4}},
		// The triangle 123 has a greater dimension than the edge 34, which has a greater number.
		{"6:012,013,023,123,04,34,5", []impl.Pair{{6, 7}, {3, 11}, {2, 10}, {5, 13}, {4, 12}, {8, 9}, {1, 17}}, []int64{14, 24, 32, 16}},
	} {
		pairs, critical, code := impl.ReductionOf(madeOf(t, c.text))
		if code != impl.ErrNone || !slices.Equal(pairs, c.pairs) || !slices.Equal(critical, c.critical) {
			t.Errorf("ReductionOf(%q) = %v, %v, %d; want %v, %v", c.text, pairs, critical, code, c.pairs, c.critical)
		}
	}
}
