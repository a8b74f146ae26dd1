package tests

import (
	"slices"
	"testing"

	"loop.example/g01348/impl"
)

// Promise 9.

func TestFibresAreComplexes(t *testing.T) {
	simplicialSamples(t, func(k, l impl.Complex, list []int64) {
		for _, g := range l.Faces {
			fibre, code := impl.FibreOf(k, l, list, g)
			if code != impl.ErrNone || !impl.IsComplex(fibre) || fibre.Vertices != k.Vertices || !isPartOf(k, fibre) {
				t.Fatalf("FibreOf(%v, %v, %v, %d) = %v, %d", k, l, list, g, fibre, code)
			}
		}
	})
}

func TestMapsPutTogetherAreSimplicial(t *testing.T) {
	composedSamples(t, func(k, l, m impl.Complex, first, second []int64) {
		list, one := impl.ComposeMaps(k, l, m, first, second)
		isMap, two := impl.IsMap(k, m, list)
		simplicial, three := impl.IsSimplicial(k, m, list)
		if one != impl.ErrNone || two != impl.ErrNone || three != impl.ErrNone || !isMap || !simplicial || !isSimplicialByRule(k, m, list) {
			t.Fatalf("ComposeMaps(%v, %v, %v, %v, %v) = %v, %d; a map: %v, %d; simplicial: %v, %d", k, l, m, first, second, list, one, isMap, two, simplicial, three)
		}
	})
}

// Promise 17.

func TestOpenFibresPartTheFaces(t *testing.T) {
	simplicialSamples(t, func(k, l impl.Complex, list []int64) {
		var all []int64
		for _, g := range l.Faces {
			fibre, code := impl.OpenFibre(k, l, list, g)
			if code != impl.ErrNone {
				t.Fatalf("OpenFibre(%v, %v, %v, %d): code %d", k, l, list, g, code)
			}
			all = append(all, fibre...)
		}
		if slices.Sort(all); !slices.Equal(all, k.Faces) {
			t.Fatalf("the open fibres of %v to %v by %v have %v", k, l, list, all)
		}
	})
}

// TestFibresAreTheOpenFibresInThem puts the open fibres of all faces in a face together.
func TestFibresAreTheOpenFibresInThem(t *testing.T) {
	simplicialSamples(t, func(k, l impl.Complex, list []int64) {
		for _, g := range l.Faces {
			fibre, _ := impl.FibreOf(k, l, list, g)
			var all []int64
			for _, h := range l.Faces {
				if open, _ := impl.OpenFibre(k, l, list, h); isInside(h, g) {
					all = append(all, open...)
				}
			}
			if slices.Sort(all); !slices.Equal(all, fibre.Faces) {
				t.Fatalf("FibreOf(%v, %v, %v, %d) = %v; the open fibres have %v", k, l, list, g, fibre, all)
			}
		}
	})
}

// The rest of the guarantee of chapter 9, and what it says in brackets.

func TestIsomorphismsKeepNumbersOfFaces(t *testing.T) {
	isomorphisms := 0
	for _, k := range smallComplexes(4) {
		for _, l := range allComplexes(k.Vertices) {
			list, code := impl.FindIsomorphism(k, l)
			if code == impl.ErrNotFound {
				continue
			}
			isomorphisms++
			before, one := impl.CountFaces(k)
			after, two := impl.CountFaces(l)
			if code != impl.ErrNone || one != impl.ErrNone || two != impl.ErrNone || !slices.Equal(before, after) {
				t.Fatalf("FindIsomorphism(%v, %v) = %v, %d; numbers of faces %v, %v", k, l, list, code, before, after)
			}
		}
	}
	if isomorphisms < 1000 {
		t.Errorf("only %d isomorphisms", isomorphisms)
	}
}

func TestPairingsByVerticesAndFibresAreAcyclic(t *testing.T) {
	for _, k := range mapComplexes(t) {
		for v := range k.Vertices {
			list, one := impl.PairingByVertex(k, v)
			acyclic, two := impl.IsAcyclicPairing(k, list)
			if one != impl.ErrNone || two != impl.ErrNone || !acyclic || !isAcyclicByRule(k, list) {
				t.Fatalf("PairingByVertex(%v, %d) = %v, %d; acyclic: %v, %d", k, v, list, one, acyclic, two)
			}
		}
	}
	simplicialSamples(t, func(k, l impl.Complex, list []int64) {
		pairing, one := impl.PairingByFibres(k, l, list)
		acyclic, two := impl.IsAcyclicPairing(k, pairing)
		if one != impl.ErrNone || two != impl.ErrNone || !acyclic || !isAcyclicByRule(k, pairing) {
			t.Fatalf("PairingByFibres(%v, %v, %v) = %v, %d; acyclic: %v, %d", k, l, list, pairing, one, acyclic, two)
		}
	})
}

// The functions one by one.

// TestIsMapOnAllShortLists tries all lists of up to four numbers around those of the vertices.
func TestIsMapOnAllShortLists(t *testing.T) {
	maps := 0
	for _, k := range []impl.Complex{complexOn(1), complexOn(2, 1), fullComplex(2), named(t, "circle"), complexOn(4)} {
		for _, l := range []impl.Complex{complexOn(1), complexOn(1, 1), complexOn(2), fullComplex(3)} {
			for length := range int64(5) {
				for list := range allMaps(length, l.Vertices+3) {
					for place := range list {
						list[place]-- // from -1 on
					}
					want := isMapByRule(k, l, list)
					if yes, code := impl.IsMap(k, l, list); code != impl.ErrNone || yes != want {
						t.Fatalf("IsMap(%v, %v, %v) = %v, %d", k, l, list, yes, code)
					}
					if want {
						maps++
					}
				}
			}
		}
	}
	if maps != 7+15+15+37+99 {
		t.Errorf("%d maps", maps)
	}
}

func TestMapsAndTheirImagesByDefinition(t *testing.T) {
	seen := map[bool]int{}
	mapSamples(t, func(k, l impl.Complex, list []int64) {
		want := isSimplicialByRule(k, l, list)
		seen[want]++
		if yes, code := impl.IsMap(k, l, list); code != impl.ErrNone || !yes {
			t.Fatalf("IsMap(%v, %v, %v) = %v, %d", k, l, list, yes, code)
		}
		if yes, code := impl.IsSimplicial(k, l, list); code != impl.ErrNone || yes != want {
			t.Fatalf("IsSimplicial(%v, %v, %v) = %v, %d", k, l, list, yes, code)
		}
		if !want {
			return
		}
		images := complexOn(l.Vertices, imagesByRule(k, list)...)
		if got, code := impl.ImageComplex(k, l, list); code != impl.ErrNone || !sameComplex(got, images) {
			t.Fatalf("ImageComplex(%v, %v, %v) = %v, %d", k, l, list, got, code)
		}
	})
	if seen[true] < 5000 || seen[false] < 1000 {
		t.Errorf("the samples are too few: %v", seen)
	}
}

func TestIsSimplicialExamples(t *testing.T) {
	for _, c := range []struct {
		k, l       string
		list       []int64
		simplicial bool
	}{
		{"1:", "1:", []int64{0}, true}, {"1:", "6:", []int64{5}, true}, {"1:0", "1:", []int64{0}, false}, {"1:0", "1:0", []int64{0}, true}, {"1:0", "6:5", []int64{5}, true}, {"1:0", "6:5", []int64{4}, false},
		{"6:", "1:", []int64{0, 0, 0, 0, 0, 0}, true}, {"6:012345", "1:0", []int64{0, 0, 0, 0, 0, 0}, true}, {"6:012345", "2:0", []int64{0, 0, 0, 0, 0, 0}, true}, {"6:012345", "2:0", []int64{1, 1, 1, 1, 1, 1}, false},
		{"3:0", "2:1", []int64{1, 0, 0}, true}, {"3:0", "2:1", []int64{0, 1, 1}, false}, // vertices that are no face may go anywhere
		{"2:01", "2:0,1", []int64{0, 1}, false}, {"2:01", "2:0,1", []int64{1, 1}, true}, {"2:0,1", "2:01", []int64{1, 0}, true}, {"3:01,02,12", "3:01,02,12", []int64{2, 2, 0}, true},
		{"3:012", "3:01,02,12", []int64{0, 1, 2}, false}, {"3:012", "3:01,02,12", []int64{0, 1, 1}, true}, {"3:01,02,12", "3:012", []int64{2, 0, 1}, true},
		{"4:01,12,23,03", "3:01,12", []int64{0, 1, 2, 1}, true}, {"4:01,12,23,03", "3:01,12", []int64{0, 1, 1, 2}, false}, {"4:0123", "4:012,013,023,123", []int64{3, 2, 1, 1}, true}, {"4:0123", "4:012,013,023,123", []int64{3, 2, 1, 0}, false},
	} {
		if yes, code := impl.IsSimplicial(madeOf(t, c.k), madeOf(t, c.l), c.list); code != impl.ErrNone || yes != c.simplicial {
			t.Errorf("IsSimplicial(%q, %q, %v) = %v, %d", c.k, c.l, c.list, yes, code)
		}
	}
}

func TestImageComplexExamples(t *testing.T) {
	for _, c := range []struct {
		k, l  string
		list  []int64
		image string
	}{
		{"1:", "1:", []int64{0}, "1:"}, {"6:", "2:01", []int64{0, 1, 0, 1, 0, 1}, "2:"}, {"1:0", "6:012345", []int64{4}, "6:4"}, {"6:012345", "4:0123", []int64{2, 2, 2, 2, 2, 2}, "4:2"},
		{"6:0", "3:012", []int64{1, 2, 2, 2, 2, 2}, "3:1"}, {"4:01,12,23,03", "3:012", []int64{0, 1, 2, 1}, "3:01,12"}, {"4:01,12,23,03", "3:012", []int64{0, 1, 1, 2}, "3:01,02,12"},
		{"6:012,345", "6:012345", []int64{0, 1, 2, 2, 3, 3}, "6:012,23"}, {"5:0123,4", "6:012345", []int64{5, 5, 3, 1, 0}, "6:0,135"},
	} {
		if got, code := impl.ImageComplex(madeOf(t, c.k), madeOf(t, c.l), c.list); code != impl.ErrNone || !sameComplex(got, madeOf(t, c.image)) {
			t.Errorf("ImageComplex(%q, %q, %v) = %v, %d; want %q", c.k, c.l, c.list, got, code, c.image)
		}
	}
}

func TestFibresByDefinition(t *testing.T) {
	simplicialSamples(t, func(k, l impl.Complex, list []int64) {
		for _, g := range l.Faces {
			want := complexOn(k.Vertices, fibreByRule(k, list, g)...)
			if got, code := impl.FibreOf(k, l, list, g); code != impl.ErrNone || !sameComplex(got, want) {
				t.Fatalf("FibreOf(%v, %v, %v, %d) = %v, %d", k, l, list, g, got, code)
			}
			open := openFibreByRule(k, list, g)
			if got, code := impl.OpenFibre(k, l, list, g); code != impl.ErrNone || !slices.Equal(got, open) {
				t.Fatalf("OpenFibre(%v, %v, %v, %d) = %v, %d", k, l, list, g, got, code)
			}
		}
	})
}

func TestFibreExamples(t *testing.T) {
	for _, c := range []struct {
		k, l  string
		list  []int64
		g     int64
		fibre string
		open  []int64
	}{
		{"1:", "1:0", []int64{0}, 1, "1:", nil}, {"6:", "2:01", []int64{0, 1, 0, 1, 0, 1}, 3, "6:", nil}, {"1:0", "1:0", []int64{0}, 1, "1:0", []int64{1}}, {"1:0", "2:01", []int64{1}, 1, "1:", nil}, {"1:0", "2:01", []int64{1}, 3, "1:0", nil},
		{"6:45", "3:012", []int64{0, 0, 0, 0, 2, 2}, 4, "6:45", []int64{16, 32, 48}}, {"6:45", "3:012", []int64{0, 0, 0, 0, 2, 2}, 1, "6:", nil}, // the vertices that go to 0 are no face
		{"3:012", "2:01", []int64{0, 1, 1}, 1, "3:0", []int64{1}}, {"3:012", "2:01", []int64{0, 1, 1}, 2, "3:12", []int64{2, 4, 6}}, {"3:012", "2:01", []int64{0, 1, 1}, 3, "3:012", []int64{3, 5, 7}},
		{"4:01,12,23,03", "3:01,12", []int64{0, 1, 2, 1}, 3, "4:01,03", []int64{3, 9}}, {"4:01,12,23,03", "3:01,12", []int64{0, 1, 2, 1}, 6, "4:12,23", []int64{6, 12}}, {"4:01,12,23,03", "3:01,12", []int64{0, 1, 2, 1}, 2, "4:1,3", []int64{2, 8}},
		{"6:024,025,034,035,124,125,134,135", "3:012", []int64{0, 0, 1, 1, 2, 2}, 5, "6:04,05,14,15", []int64{17, 18, 33, 34}},
	} {
		k, l := madeOf(t, c.k), madeOf(t, c.l)
		if got, code := impl.FibreOf(k, l, c.list, c.g); code != impl.ErrNone || !sameComplex(got, madeOf(t, c.fibre)) {
			t.Errorf("FibreOf(%q, %q, %v, %d) = %v, %d; want %q", c.k, c.l, c.list, c.g, got, code, c.fibre)
		}
		if got, code := impl.OpenFibre(k, l, c.list, c.g); code != impl.ErrNone || !slices.Equal(got, c.open) {
			t.Errorf("OpenFibre(%q, %q, %v, %d) = %v, %d; want %v", c.k, c.l, c.list, c.g, got, code, c.open)
		}
	}
}

func TestComposeMapsByDefinition(t *testing.T) {
	composedSamples(t, func(k, l, m impl.Complex, first, second []int64) {
		got, code := impl.ComposeMaps(k, l, m, first, second)
		if code != impl.ErrNone || len(got) != len(first) {
			t.Fatalf("ComposeMaps(%v, %v, %v, %v, %v) = %v, %d", k, l, m, first, second, got, code)
		}
		for v, w := range first {
			if got[v] != second[w] {
				t.Fatalf("ComposeMaps(%v, %v, %v, %v, %v) = %v", k, l, m, first, second, got)
			}
		}
	})
}

func TestComposeMapsExamples(t *testing.T) {
	for _, c := range []struct {
		k, l, m       string
		first, second []int64
		both          []int64
	}{
		{"1:", "1:", "1:", []int64{0}, []int64{0}, []int64{0}}, {"2:", "3:", "6:", []int64{2, 0}, []int64{5, 4, 3}, []int64{3, 5}}, {"1:0", "6:012345", "2:01", []int64{3}, []int64{0, 0, 0, 1, 0, 0}, []int64{1}},
		{"3:012", "3:012", "3:012", []int64{1, 2, 0}, []int64{0, 2, 1}, []int64{2, 1, 0}}, {"3:012", "3:012", "3:012", []int64{0, 2, 1}, []int64{1, 2, 0}, []int64{1, 0, 2}},
		{"4:01,12,23,03", "2:01", "3:01,02,12", []int64{0, 1, 0, 1}, []int64{2, 1}, []int64{2, 1, 2, 1}}, {"6:01,2", "2:01", "1:0", []int64{0, 0, 1, 1, 0, 1}, []int64{0, 0}, []int64{0, 0, 0, 0, 0, 0}},
	} {
		if got, code := impl.ComposeMaps(madeOf(t, c.k), madeOf(t, c.l), madeOf(t, c.m), c.first, c.second); code != impl.ErrNone || !slices.Equal(got, c.both) {
			t.Errorf("ComposeMaps(%q, %q, %q, %v, %v) = %v, %d; want %v", c.k, c.l, c.m, c.first, c.second, got, code, c.both)
		}
	}
}

func TestAreContiguousByDefinition(t *testing.T) {
	seen := map[bool]int{}
	twoMapSamples(t, func(k, l impl.Complex, a, b []int64) {
		want := areContiguousByRule(k, l, a, b)
		seen[want]++
		for range 2 { // in both orders
			if yes, code := impl.AreContiguous(k, l, a, b); code != impl.ErrNone || yes != want {
				t.Fatalf("AreContiguous(%v, %v, %v, %v) = %v, %d", k, l, a, b, yes, code)
			}
			a, b = b, a
		}
	})
	if seen[true] < 5000 || seen[false] < 1000 {
		t.Errorf("the samples are too few: %v", seen)
	}
}

func TestAreContiguousExamples(t *testing.T) {
	for _, c := range []struct {
		k, l       string
		a, b       []int64
		contiguous bool
	}{
		{"1:", "1:", []int64{0}, []int64{0}, true}, {"6:", "2:", []int64{0, 0, 0, 0, 0, 0}, []int64{1, 1, 1, 1, 1, 1}, true}, {"1:0", "2:0,1", []int64{0}, []int64{1}, false}, {"1:0", "2:01", []int64{0}, []int64{1}, true}, {"1:0", "2:0,1", []int64{1}, []int64{1}, true},
		{"2:0", "2:0,1", []int64{1, 0}, []int64{1, 1}, true}, {"2:01", "3:01,12", []int64{0, 1}, []int64{1, 2}, false}, {"2:01", "3:01,12", []int64{0, 1}, []int64{1, 0}, true}, {"2:01", "3:01,02,12", []int64{0, 0}, []int64{1, 2}, false}, {"2:01", "3:012", []int64{0, 0}, []int64{1, 2}, true},
		{"3:01,02,12", "3:01,02,12", []int64{0, 1, 2}, []int64{0, 1, 2}, true}, {"3:01,02,12", "3:01,02,12", []int64{0, 1, 2}, []int64{0, 1, 1}, false}, {"3:012", "4:012,013", []int64{0, 1, 2}, []int64{0, 1, 3}, false}, {"3:01,2", "4:012,013,23", []int64{0, 1, 2}, []int64{0, 1, 3}, true},
	} {
		if yes, code := impl.AreContiguous(madeOf(t, c.k), madeOf(t, c.l), c.a, c.b); code != impl.ErrNone || yes != c.contiguous {
			t.Errorf("AreContiguous(%q, %q, %v, %v) = %v, %d", c.k, c.l, c.a, c.b, yes, code)
		}
	}
}

func TestFindIsomorphismByDefinition(t *testing.T) {
	for n := int64(1); n <= 4; n++ {
		orders := sortedPermutations(n)
		for _, k := range allComplexes(n) {
			for _, l := range allComplexes(n) {
				checkIsomorphism(t, k, l, orders)
			}
		}
	}
}

// checkIsomorphism compares with the first isomorphism among all orders of the vertices.
func checkIsomorphism(t *testing.T, k, l impl.Complex, orders [][]int64) {
	t.Helper()
	want := leastIsomorphismByRule(k, l, orders)
	got, code := impl.FindIsomorphism(k, l)
	if want == nil && (code != impl.ErrNotFound || len(got) > 0) || want != nil && (code != impl.ErrNone || !slices.Equal(got, want)) {
		t.Fatalf("FindIsomorphism(%v, %v) = %v, %d; want %v", k, l, got, code, want)
	}
}

// TestFindIsomorphismOfLargeComplexes renumbers complexes with five and six Vertices, and takes each
// one together with those ahead of it, too.
func TestFindIsomorphismOfLargeComplexes(t *testing.T) {
	state := uint32(3)
	for n := int64(5); n <= 6; n++ {
		orders := sortedPermutations(n)
		complexes := slices.DeleteFunc(mapComplexes(t), func(k impl.Complex) bool { return k.Vertices != n })
		for i, k := range complexes {
			for range 3 {
				order := orders[scattered(&state, len(orders))]
				renumbered := complexOn(n, imagesByRule(k, order)...)
				checkIsomorphism(t, k, renumbered, orders)
			}
			for j := range i {
				checkIsomorphism(t, k, complexes[j], orders)
			}
		}
	}
}

func TestFindIsomorphismExamples(t *testing.T) {
	for _, c := range []struct {
		k, l string
		list []int64
		code int64
	}{
		{"1:", "1:", []int64{0}, impl.ErrNone}, {"6:", "6:", []int64{0, 1, 2, 3, 4, 5}, impl.ErrNone}, {"1:0", "1:0", []int64{0}, impl.ErrNone}, {"1:0", "1:", nil, impl.ErrNotFound}, {"1:", "1:0", nil, impl.ErrNotFound},
		{"6:012345", "6:012345", []int64{0, 1, 2, 3, 4, 5}, impl.ErrNone}, {"6:0", "6:5", []int64{5, 0, 1, 2, 3, 4}, impl.ErrNone}, {"6:5", "6:0", []int64{1, 2, 3, 4, 5, 0}, impl.ErrNone}, {"3:0,1", "3:1,2", []int64{1, 2, 0}, impl.ErrNone},
		{"3:01,12", "3:01,02", []int64{1, 0, 2}, impl.ErrNone}, {"4:01,12,23,03", "4:02,12,13,03", []int64{0, 2, 1, 3}, impl.ErrNone}, {"4:01,12,23", "4:02,03,13", []int64{1, 3, 0, 2}, impl.ErrNone},
		{"4:01,02,03", "4:01,12,23", nil, impl.ErrNotFound}, {"5:01,12,23,34", "5:01,02,03,34", nil, impl.ErrNotFound}, {"6:01,12,23,34,45,05", "6:01,02,12,34,35,45", nil, impl.ErrNotFound}, // as many of each dimension
		{"6:012,023,34", "6:012,023,04", nil, impl.ErrNotFound}, {"6:012,023,34", "6:013,023,35", nil, impl.ErrNotFound}, {"6:012,023,34", "6:145,134,05", []int64{1, 3, 4, 5, 0, 2}, impl.ErrNone}, {"4:01,23", "4:01,02", nil, impl.ErrNotFound}, // the last one has a vertex less
		{"3:01,2", "3:01,12", nil, impl.ErrNotFound}, {"3:01,12", "3:01,2", nil, impl.ErrNotFound}, {"3:012", "3:01,02,12", nil, impl.ErrNotFound}, {"3:01,02,12", "3:012", nil, impl.ErrNotFound}, // one lies in the other one
	} {
		if got, code := impl.FindIsomorphism(madeOf(t, c.k), madeOf(t, c.l)); code != c.code || !slices.Equal(got, c.list) {
			t.Errorf("FindIsomorphism(%q, %q) = %v, %d; want %v, %d", c.k, c.l, got, code, c.list, c.code)
		}
	}
}

func TestCountAutomorphismsByDefinition(t *testing.T) {
	for _, k := range append(smallComplexes(3), mapComplexes(t)...) {
		want := int64(0)
		for _, list := range permutations(k.Vertices) {
			if isIsomorphismByRule(k, k, list) {
				want++
			}
		}
		if got, code := impl.CountAutomorphisms(k); code != impl.ErrNone || got != want {
			t.Fatalf("CountAutomorphisms(%v) = %d, %d; want %d", k, got, code, want)
		}
	}
}

func TestCountAutomorphismsExamples(t *testing.T) {
	for text, want := range map[string]int64{
		"1:": 1, "1:0": 1, "2:": 2, "2:0": 1, "2:0,1": 2, "2:01": 2, "6:": 720, "6:012345": 720, "6:5": 120, "6:34": 48, "3:01,12": 2, "3:01,02,12": 6, "4:01,12,23": 2, "4:01,12,23,03": 8,
		"5:01,02,12,03,04,34": 8, "6:01,12,13,34,35": 8, "6:01,12,23,34,45,05": 12, "6:01,02,12,34,35,45": 72, "5:013,014,023,024,123,124": 12, "6:0,12,345": 12, "6:01,12,13,24": 2, "6:01,02,12,03,34,15": 1, "6:012,34": 12,
	} {
		if got, code := impl.CountAutomorphisms(madeOf(t, text)); code != impl.ErrNone || got != want {
			t.Errorf("CountAutomorphisms(%q) = %d, %d; want %d", text, got, code, want)
		}
	}
}

func TestPairingByVertexByDefinition(t *testing.T) {
	for _, k := range append(smallComplexes(3), mapComplexes(t)...) {
		for v := range k.Vertices {
			want := pairsWithout(k.Faces, v)
			if got, code := impl.PairingByVertex(k, v); code != impl.ErrNone || !slices.Equal(got, want) {
				t.Fatalf("PairingByVertex(%v, %d) = %v, %d; want %v", k, v, got, code, want)
			}
		}
	}
}

func TestPairingByVertexExamples(t *testing.T) {
	for _, c := range []struct {
		text string
		v    int64
		list []impl.Pair
	}{
		{"1:", 0, nil}, {"6:", 5, nil}, {"1:0", 0, nil}, {"6:0,1,2,3,4,5", 3, nil}, {"3:01", 2, nil}, {"3:01", 0, []impl.Pair{{2, 3}}}, {"3:01", 1, []impl.Pair{{1, 3}}},
		{"3:012", 0, []impl.Pair{{2, 3}, {4, 5}, {6, 7}}}, {"3:012", 1, []impl.Pair{{1, 3}, {4, 6}, {5, 7}}}, {"3:012", 2, []impl.Pair{{1, 5}, {2, 6}, {3, 7}}}, {"4:012,23", 3, []impl.Pair{{4, 12}}}, {"4:012,23", 2, []impl.Pair{{1, 5}, {2, 6}, {3, 7}, {8, 12}}},
		{"6:25", 5, []impl.Pair{{4, 36}}}, {"6:25", 2, []impl.Pair{{32, 36}}},
	} {
		if got, code := impl.PairingByVertex(madeOf(t, c.text), c.v); code != impl.ErrNone || !slices.Equal(got, c.list) {
			t.Errorf("PairingByVertex(%q, %d) = %v, %d; want %v", c.text, c.v, got, code, c.list)
		}
	}
}

func TestPairingByFibresByDefinition(t *testing.T) {
	simplicialSamples(t, func(k, l impl.Complex, list []int64) {
		want := pairingByFibresByRule(k, l, list)
		if got, code := impl.PairingByFibres(k, l, list); code != impl.ErrNone || !slices.Equal(got, want) {
			t.Fatalf("PairingByFibres(%v, %v, %v) = %v, %d; want %v", k, l, list, got, code, want)
		}
	})
}

func TestPairingByFibresExamples(t *testing.T) {
	for _, c := range []struct {
		k, l    string
		list    []int64
		pairing []impl.Pair
	}{
		{"1:", "1:", []int64{0}, nil}, {"6:", "1:0", []int64{0, 0, 0, 0, 0, 0}, nil}, {"1:0", "1:0", []int64{0}, nil}, {"6:0,1,2,3,4,5", "1:0", []int64{0, 0, 0, 0, 0, 0}, nil},
		{"3:012", "3:012", []int64{0, 1, 2}, nil}, {"3:012", "1:0", []int64{0, 0, 0}, []impl.Pair{{2, 3}, {4, 5}, {6, 7}}}, // all alone, and all together
		{"3:12", "1:0", []int64{0, 0, 0}, []impl.Pair{{4, 6}}},                       // not by the vertex 0, which is no face
		{"3:0,12", "1:0", []int64{0, 0, 0}, []impl.Pair{{4, 6}}},                     // nor if it is one
		{"3:012", "2:01", []int64{1, 0, 0}, []impl.Pair{{4, 6}, {5, 7}}},             // both by the vertex 1, not 3, 7 by 2
		{"4:01,12,23,03", "2:01", []int64{0, 0, 1, 1}, []impl.Pair{{2, 3}, {8, 12}}}, // the edges between stay
		{"4:0123", "2:01", []int64{0, 0, 1, 1}, []impl.Pair{{2, 3}, {6, 7}, {8, 12}, {10, 11}, {14, 15}}},
	} {
		if got, code := impl.PairingByFibres(madeOf(t, c.k), madeOf(t, c.l), c.list); code != impl.ErrNone || !slices.Equal(got, c.pairing) {
			t.Errorf("PairingByFibres(%q, %q, %v) = %v, %d; want %v", c.k, c.l, c.list, got, code, c.pairing)
		}
	}
}

func TestFixedFacesByDefinition(t *testing.T) {
	fixed := 0
	selfSamples(t, func(k impl.Complex, list []int64) {
		want := chosen(k.Vertices, func(f int64) bool { return hasFace(k, f) && imageByRule(list, f) == f })
		if got, code := impl.FixedFaces(k, list); code != impl.ErrNone || !slices.Equal(got, want) {
			t.Fatalf("FixedFaces(%v, %v) = %v, %d; want %v", k, list, got, code, want)
		}
		fixed += len(want)
	})
	if fixed < 1000 {
		t.Errorf("only %d faces stay", fixed)
	}
}

func TestFixedFacesExamples(t *testing.T) {
	for _, c := range []struct {
		text string
		list []int64
		want []int64
	}{
		{"1:", []int64{0}, nil}, {"6:", []int64{0, 1, 2, 3, 4, 5}, nil}, {"1:0", []int64{0}, []int64{1}}, {"2:0", []int64{0, 1}, []int64{1}}, {"2:0,1", []int64{1, 0}, nil}, {"2:01", []int64{1, 0}, []int64{3}}, {"2:01", []int64{1, 1}, []int64{2}},
		{"3:01,02,12", []int64{1, 2, 0}, nil}, {"3:012", []int64{1, 2, 0}, []int64{7}}, {"3:012", []int64{0, 2, 1}, []int64{1, 6, 7}}, {"3:012", []int64{0, 1, 1}, []int64{1, 2, 3}}, {"3:01,02,12", []int64{0, 1, 2}, []int64{1, 2, 3, 4, 5, 6}},
		{"4:01,12,23,03", []int64{2, 3, 0, 1}, nil}, {"4:01,12,23,03", []int64{1, 0, 3, 2}, []int64{3, 12}}, {"6:012345", []int64{1, 0, 3, 2, 5, 4}, []int64{3, 12, 15, 48, 51, 60, 63}}, {"6:012345", []int64{5, 5, 5, 5, 5, 5}, []int64{32}},
	} {
		if got, code := impl.FixedFaces(madeOf(t, c.text), c.list); code != impl.ErrNone || !slices.Equal(got, c.want) {
			t.Errorf("FixedFaces(%q, %v) = %v, %d; want %v", c.text, c.list, got, code, c.want)
		}
	}
}

// TestCountSimplicialByDefinition tries all maps: between all complexes with at most three Vertices, and
// between some larger ones, up to the greatest numbers of Vertices.
func TestCountSimplicialByDefinition(t *testing.T) {
	for _, k := range smallComplexes(3) {
		for _, l := range smallComplexes(3) {
			checkCount(t, k, l)
		}
	}
	sources := append(append(someComplexes(t, 4, 12), someComplexes(t, 5, 24)...), named(t, "moebius"), named(t, "bipyramid"), fullComplex(5), complexOn(5))
	targets := append(append(smallComplexes(2), someComplexes(t, 3, 8)...), someComplexes(t, 4, 20)...)
	for _, k := range sources {
		for _, l := range append(targets, named(t, "square"), named(t, "sphere"), fullComplex(4), complexOn(4)) {
			checkCount(t, k, l)
		}
	}
}

// checkCount compares with the number of simplicial maps among all maps.
func checkCount(t *testing.T, k, l impl.Complex) {
	t.Helper()
	want := countByRule(k, l)
	if got, code := impl.CountSimplicial(k, l); code != impl.ErrNone || got != want {
		t.Fatalf("CountSimplicial(%v, %v) = %d, %d; want %d", k, l, got, code, want)
	}
}

func TestCountSimplicialExamples(t *testing.T) {
	for _, c := range []struct {
		k, l  string
		count int64
	}{
		{"1:", "1:", 1}, {"1:", "4:", 4}, {"5:", "4:", 1024}, {"5:", "1:", 1}, {"1:0", "1:", 0}, {"1:0", "4:", 0}, {"1:0", "4:1,2", 2}, {"5:01234", "4:0123", 1024}, {"5:01234", "4:012,013,023,123", 1024 - 240},
		{"5:01234", "1:0", 1}, {"5:01234", "1:", 0}, {"5:0", "4:0123", 1024}, {"5:0", "4:3", 256}, {"5:01234", "4:0,1,2,3", 4}, {"2:01", "4:01,12,23,03", 12}, {"3:01,02,12", "4:01,12,23,03", 28},
		{"3:01,02,12", "3:01,02,12", 27}, {"3:012", "3:01,02,12", 21}, {"4:01,12,23,03", "4:01,12,23,03", 84}, {"5:01,12,23,34,04", "2:01", 32}, {"5:01,23", "2:0,1", 8},
	} {
		if got, code := impl.CountSimplicial(madeOf(t, c.k), madeOf(t, c.l)); code != impl.ErrNone || got != c.count {
			t.Errorf("CountSimplicial(%q, %q) = %d, %d; want %d", c.k, c.l, got, code, c.count)
		}
	}
}
