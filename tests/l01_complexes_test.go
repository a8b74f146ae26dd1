package tests

import (
	"math"
	"slices"
	"strings"
	"testing"

	"loop.example/g01348/impl"
)

func TestErrorCodes(t *testing.T) {
	codes := []int64{impl.ErrNone, impl.ErrInvalid, impl.ErrRange, impl.ErrLimit, impl.ErrNotFound, impl.ErrState, impl.ErrSyntax}
	if !slices.Equal(codes, []int64{0, 1, 2, 3, 4, 5, 6}) || impl.MaxVertices != 6 {
		t.Errorf("codes %v, MaxVertices %d", codes, impl.MaxVertices)
	}
}

// Promise 1.

func TestFacetsMakeTheComplex(t *testing.T) {
	for _, k := range append(sampleComplexes(t), allComplexes(5)...) {
		facets, code := impl.FacetsOf(k)
		if code != impl.ErrNone {
			t.Fatalf("FacetsOf(%v): code %d", k, code)
		}
		if made, code := impl.ComplexOf(k.Vertices, facets); code != impl.ErrNone || !sameComplex(made, k) {
			t.Fatalf("facets %v of %v make %v, %d", facets, k, made, code)
		}
	}
}

func TestEulerNumbersOfConesAreOne(t *testing.T) {
	for _, k := range append(smallComplexes(4), allComplexes(5)...) {
		cone, code := impl.ConeOf(k)
		if code != impl.ErrNone || !impl.IsComplex(cone) {
			t.Fatalf("ConeOf(%v) = %v, %d", k, cone, code)
		}
		if number, code := impl.EulerNumber(cone); code != impl.ErrNone || number != 1 {
			t.Fatalf("the cone of %v has the Euler number %d, %d", k, number, code)
		}
	}
}

func TestComplexesComeBackFromTheirTexts(t *testing.T) {
	for _, k := range append(sampleComplexes(t), allComplexes(5)...) {
		text, code := impl.ComplexText(k)
		if code != impl.ErrNone {
			t.Fatalf("ComplexText(%v): code %d", k, code)
		}
		if back, code := impl.ParseComplex(text); code != impl.ErrNone || !sameComplex(back, k) {
			t.Fatalf("%v has the text %q, which gives %v, %d", k, text, back, code)
		}
	}
}

func TestLinksOfJoinsFollowFromTheParts(t *testing.T) {
	for _, k := range smallComplexes(3) {
		for _, l := range smallComplexes(3) {
			checkLinksOfJoin(t, k, l)
		}
	}
}

func checkLinksOfJoin(t *testing.T, k, l impl.Complex) {
	t.Helper()
	join, _ := impl.JoinOf(k, l)
	for _, face := range join.Faces {
		low, high := face&(1<<k.Vertices-1), face>>k.Vertices
		kPart, lPart := k, l
		if low != 0 {
			kPart, _ = impl.LinkOf(k, low)
		}
		if high != 0 {
			lPart, _ = impl.LinkOf(l, high)
		}
		want, _ := impl.JoinOf(kPart, lPart)
		if link, code := impl.LinkOf(join, face); code != impl.ErrNone || !sameComplex(link, want) {
			t.Fatalf("LinkOf(join of %v and %v, %d) = %v, %d; want %v", k, l, face, link, code, want)
		}
	}
}

// IsComplex and ComplexOf.

func TestIsComplexOnAllListsOfSets(t *testing.T) {
	for n := int64(1); n <= 4; n++ {
		for choice := range int64(1) << (1<<n - 1) {
			k := impl.Complex{Vertices: n, Faces: chosen(n, func(set int64) bool { return choice>>(set-1)&1 == 1 })}
			want := true
			for _, face := range k.Faces {
				want = want && canFollow(k.Faces, face)
			}
			if got := impl.IsComplex(k); got != want {
				t.Fatalf("IsComplex(%v) = %v", k, got)
			}
		}
	}
}

func TestIsComplexAtItsLimits(t *testing.T) {
	for _, k := range []impl.Complex{
		complexOn(1), complexOn(1, 1), complexOn(6), complexOn(6, 32), complexOn(6, 8, 32), complexOn(3, 2, 4, 6),
		fullComplex(1), fullComplex(2), fullComplex(5), fullComplex(6),
	} {
		if !impl.IsComplex(k) {
			t.Errorf("IsComplex(%v) = false", k)
		}
	}
	for _, k := range invalidComplexes() {
		if impl.IsComplex(k) {
			t.Errorf("IsComplex(%v) = true", k)
		}
	}
}

// invalidComplexes returns values of the type Complex that are no complexes, each for one reason.
func invalidComplexes() []impl.Complex {
	tooMany := complexOn(6, append(fullComplex(6).Faces, 64)...)
	tooFew := fullComplex(6)
	tooFew.Faces = slices.Delete(slices.Clone(tooFew.Faces), 30, 31)
	return []impl.Complex{
		{}, complexOn(0, 1), complexOn(7), complexOn(7, 1), complexOn(-1), complexOn(-1, 1), complexOn(64), complexOn(65, 1),
		complexOn(math.MaxInt64), complexOn(math.MinInt64), complexOn(math.MinInt64, 1),
		complexOn(1, 2), complexOn(2, 1, 4), complexOn(6, 64), complexOn(1, 0), complexOn(2, 0, 1), complexOn(2, -1), complexOn(2, -1, 1),
		complexOn(2, 1, 1), complexOn(2, 2, 1), complexOn(2, 1, 2, 3, 3), complexOn(2, 1, 2, 3, 2), complexOn(2, 3), complexOn(2, 1, 3),
		complexOn(2, 2, 3), complexOn(3, 1, 2, 4, 7), complexOn(3, 1, 2, 3, 4, 5, 7), complexOn(3, 3, 5, 6, 7),
		complexOn(2, math.MinInt64), complexOn(2, 1, math.MaxInt64), complexOn(6, 1, math.MaxInt64, 2), tooMany, tooFew,
	}
}

func TestComplexOf(t *testing.T) {
	for _, c := range []struct {
		n    int64
		sets []int64
		want impl.Complex
	}{
		{1, nil, complexOn(1)},
		{6, []int64{}, complexOn(6)},
		{1, []int64{1}, complexOn(1, 1)},
		{6, []int64{63}, fullComplex(6)},
		{6, []int64{32}, complexOn(6, 32)},
		{4, []int64{12, 7}, complexOn(4, 1, 2, 3, 4, 5, 6, 7, 8, 12)},
		{4, []int64{7, 12, 4, 7, 3}, complexOn(4, 1, 2, 3, 4, 5, 6, 7, 8, 12)},
		{3, []int64{6, 5, 3}, complexOn(3, 1, 2, 3, 4, 5, 6)},
		{2, slices.Repeat([]int64{3}, 64), fullComplex(2)},
	} {
		if k, code := impl.ComplexOf(c.n, c.sets); code != impl.ErrNone || !sameComplex(k, c.want) {
			t.Errorf("ComplexOf(%d, %v) = %v, %d; want %v", c.n, c.sets, k, code, c.want)
		}
	}
}

func TestComplexOfHasAllSetsInTheGivenOnes(t *testing.T) {
	state := uint32(99)
	for range 300 {
		var sets []int64
		for range state >> 20 % 8 {
			state = state*1664525 + 1013904223
			sets = append(sets, int64(state>>16)%63+1)
		}
		state = state*1664525 + 1013904223
		want := chosen(6, func(part int64) bool {
			return slices.ContainsFunc(sets, func(set int64) bool { return isInside(part, set) })
		})
		if k, code := impl.ComplexOf(6, sets); code != impl.ErrNone || !sameComplex(k, complexOn(6, want...)) {
			t.Fatalf("ComplexOf(6, %v) = %v, %d", sets, k, code)
		}
	}
}

func TestComplexOfRefuses(t *testing.T) {
	for _, c := range []struct {
		n    int64
		sets []int64
	}{
		{0, nil}, {7, nil}, {-1, nil}, {math.MaxInt64, nil}, {math.MinInt64, nil}, {64, nil}, {0, []int64{1}}, {7, []int64{1}},
		{1, []int64{2}}, {2, []int64{4}}, {6, []int64{64}}, {6, []int64{0}}, {6, []int64{-1}}, {2, []int64{1, 0}}, {2, []int64{3, 4}},
		{6, []int64{math.MaxInt64}}, {6, []int64{math.MinInt64}}, {2, slices.Repeat([]int64{3}, 65)},
	} {
		if k, code := impl.ComplexOf(c.n, c.sets); code != impl.ErrRange || !sameComplex(k, impl.Complex{}) {
			t.Errorf("ComplexOf(%d, %v) = %v, %d", c.n, c.sets, k, code)
		}
	}
}

// Facets, faces and numbers.

func TestFacetsOfByDefinition(t *testing.T) {
	for _, k := range sampleComplexes(t) {
		want := chosen(k.Vertices, func(set int64) bool {
			return hasFace(k, set) && !slices.ContainsFunc(k.Faces, func(face int64) bool { return face != set && isInside(set, face) })
		})
		if got, code := impl.FacetsOf(k); code != impl.ErrNone || !slices.Equal(got, want) {
			t.Fatalf("FacetsOf(%v) = %v, %d; want %v", k, got, code, want)
		}
	}
}

func TestFacesOfByDefinition(t *testing.T) {
	for _, k := range sampleComplexes(t) {
		for d := range int64(impl.MaxVertices) {
			want := chosen(k.Vertices, func(set int64) bool { return hasFace(k, set) && sizeOf(set) == d+1 })
			if got, code := impl.FacesOf(k, d); code != impl.ErrNone || !slices.Equal(got, want) {
				t.Fatalf("FacesOf(%v, %d) = %v, %d; want %v", k, d, got, code, want)
			}
		}
	}
}

func TestCountFacesByDefinition(t *testing.T) {
	for _, k := range sampleComplexes(t) {
		var want []int64
		euler := int64(0)
		for d := range int64(impl.MaxVertices) {
			count := int64(len(chosen(k.Vertices, func(set int64) bool { return hasFace(k, set) && sizeOf(set) == d+1 })))
			if count > 0 {
				want = append(want, count)
			}
			euler += count * (1 - d%2*2)
		}
		if got, code := impl.CountFaces(k); code != impl.ErrNone || !slices.Equal(got, want) {
			t.Fatalf("CountFaces(%v) = %v, %d; want %v", k, got, code, want)
		}
		if got, code := impl.EulerNumber(k); code != impl.ErrNone || got != euler {
			t.Fatalf("EulerNumber(%v) = %d, %d; want %d", k, got, code, euler)
		}
	}
}

func TestCountFacesAtTheEdges(t *testing.T) {
	for _, c := range []struct {
		k     impl.Complex
		want  []int64
		euler int64
	}{
		{complexOn(1), nil, 0}, {complexOn(6), nil, 0}, {complexOn(1, 1), []int64{1}, 1}, {complexOn(6, 32), []int64{1}, 1},
		{fullComplex(6), []int64{6, 15, 20, 15, 6, 1}, 1}, {complexOn(3, 1, 4), []int64{2}, 2},
	} {
		got, one := impl.CountFaces(c.k)
		euler, two := impl.EulerNumber(c.k)
		if !slices.Equal(got, c.want) || euler != c.euler || one != impl.ErrNone || two != impl.ErrNone {
			t.Errorf("%v: %v, %d, %d, %d", c.k, got, one, euler, two)
		}
	}
}

// Links, stars, parts, skeletons and faces taken out.

func TestLinkStarAndTakeByDefinition(t *testing.T) {
	for _, k := range sampleComplexes(t) {
		for _, f := range k.Faces {
			link := chosen(k.Vertices, func(set int64) bool { return hasFace(k, set) && set&f == 0 && hasFace(k, set|f) })
			star := chosen(k.Vertices, func(set int64) bool { return hasFace(k, set|f) })
			left := chosen(k.Vertices, func(set int64) bool { return hasFace(k, set) && !isInside(f, set) })
			checkComplex(t, "LinkOf", k, f, link, impl.LinkOf)
			checkComplex(t, "StarOf", k, f, star, impl.StarOf)
			checkComplex(t, "TakeFace", k, f, left, impl.TakeFace)
		}
	}
}

// checkComplex checks that a function of a complex and a number returns the complex with the wanted
// faces, and as many Vertices.
func checkComplex(t *testing.T, name string, k impl.Complex, x int64, want []int64, function func(impl.Complex, int64) (impl.Complex, int64)) {
	t.Helper()
	got, code := function(k, x)
	if code != impl.ErrNone || !sameComplex(got, complexOn(k.Vertices, want...)) || !impl.IsComplex(got) {
		t.Fatalf("%s(%v, %d) = %v, %d; want %v", name, k, x, got, code, want)
	}
}

func TestPartAndSkeletonByDefinition(t *testing.T) {
	for _, k := range sampleComplexes(t) {
		for set := range int64(1) << k.Vertices {
			part := chosen(k.Vertices, func(face int64) bool { return hasFace(k, face) && isInside(face, set) })
			checkComplex(t, "PartOn", k, set, part, impl.PartOn)
		}
		for d := int64(-1); d < impl.MaxVertices; d++ {
			low := chosen(k.Vertices, func(face int64) bool { return hasFace(k, face) && sizeOf(face) <= d+1 })
			checkComplex(t, "SkeletonOf", k, d, low, impl.SkeletonOf)
		}
	}
}

func TestLinkStarAndTakeOfSixVertices(t *testing.T) {
	k := fullComplex(6)
	checkComplex(t, "LinkOf", k, 63, nil, impl.LinkOf)
	checkComplex(t, "StarOf", k, 63, k.Faces, impl.StarOf)
	checkComplex(t, "TakeFace", k, 63, k.Faces[:62], impl.TakeFace)
	checkComplex(t, "LinkOf", k, 32, fullComplex(5).Faces, impl.LinkOf)
	checkComplex(t, "TakeFace", k, 32, fullComplex(5).Faces, impl.TakeFace)
	checkComplex(t, "LinkOf", complexOn(1, 1), 1, nil, impl.LinkOf)
	checkComplex(t, "StarOf", complexOn(1, 1), 1, []int64{1}, impl.StarOf)
	checkComplex(t, "TakeFace", complexOn(1, 1), 1, nil, impl.TakeFace)
}

// Components.

func TestComponentsOfByPaths(t *testing.T) {
	for _, k := range append(sampleComplexes(t), allComplexes(5)...) {
		var want []int64
		for v := range k.Vertices {
			reached := reachedFrom(k, v)
			if reached != 0 && reached&(1<<v-1) == 0 {
				want = append(want, reached)
			}
		}
		if got, code := impl.ComponentsOf(k); code != impl.ErrNone || !slices.Equal(got, want) {
			t.Fatalf("ComponentsOf(%v) = %v, %d; want %v", k, got, code, want)
		}
	}
}

// reachedFrom returns the set of the vertices to which one gets from v, or 0 if v is not there.
func reachedFrom(k impl.Complex, v int64) int64 {
	if !hasFace(k, 1<<v) {
		return 0
	}
	reached := int64(1) << v
	todo := []int64{v}
	for len(todo) > 0 {
		from := todo[0]
		todo = todo[1:]
		for to := range k.Vertices {
			if reached>>to&1 == 0 && hasFace(k, 1<<from|1<<to) {
				reached |= 1 << to
				todo = append(todo, to)
			}
		}
	}
	return reached
}

func TestComponentsOfInOrder(t *testing.T) {
	for text, want := range map[string][]int64{
		"1:": nil, "6:": nil, "1:0": {1}, "6:5": {32}, "6:05,14,23": {33, 18, 12}, "6:0,1,2,3,4,5": {1, 2, 4, 8, 16, 32},
		"6:012345": {63}, "6:03,35,25,14": {45, 18}, "5:3,04": {17, 8},
	} {
		k, code := impl.ComplexOf(int64(text[0]-'0'), setsIn(text[2:]))
		if code != impl.ErrNone {
			t.Fatalf("%q: code %d", text, code)
		}
		if got, code := impl.ComponentsOf(k); code != impl.ErrNone || !slices.Equal(got, want) {
			t.Errorf("ComponentsOf(%q) = %v, %d; want %v", text, got, code, want)
		}
	}
}

// setsIn returns the sets of a list of digits with commas between them.
func setsIn(text string) []int64 {
	var sets []int64
	for _, digits := range strings.FieldsFunc(text, func(r rune) bool { return r == ',' }) {
		set := int64(0)
		for _, digit := range digits {
			set |= 1 << (digit - '0')
		}
		sets = append(sets, set)
	}
	return sets
}

// Joins, cones and renumberings.

func TestJoinByDefinition(t *testing.T) {
	for _, k := range smallComplexes(3) {
		for _, l := range smallComplexes(3) {
			n := k.Vertices
			want := chosen(n+l.Vertices, func(set int64) bool {
				low, high := set&(1<<n-1), set>>n
				return (low == 0 || hasFace(k, low)) && (high == 0 || hasFace(l, high))
			})
			if got, code := impl.JoinOf(k, l); code != impl.ErrNone || !sameComplex(got, complexOn(n+l.Vertices, want...)) {
				t.Fatalf("JoinOf(%v, %v) = %v, %d; want %v", k, l, got, code, want)
			}
		}
	}
}

func TestConeByDefinition(t *testing.T) {
	for _, k := range smallComplexes(5) {
		want := chosen(k.Vertices+1, func(set int64) bool {
			low := set & (1<<k.Vertices - 1)
			return low == 0 || hasFace(k, low)
		})
		if got, code := impl.ConeOf(k); code != impl.ErrNone || !sameComplex(got, complexOn(k.Vertices+1, want...)) {
			t.Fatalf("ConeOf(%v) = %v, %d; want %v", k, got, code, want)
		}
	}
}

func TestJoinAndConeAtTheLimit(t *testing.T) {
	if k, code := impl.JoinOf(fullComplex(1), fullComplex(5)); code != impl.ErrNone || !sameComplex(k, fullComplex(6)) {
		t.Errorf("JoinOf = %v, %d", k, code)
	}
	if k, code := impl.JoinOf(complexOn(5), complexOn(1)); code != impl.ErrNone || !sameComplex(k, complexOn(6)) {
		t.Errorf("JoinOf = %v, %d", k, code)
	}
	if k, code := impl.ConeOf(complexOn(5)); code != impl.ErrNone || !sameComplex(k, complexOn(6, 32)) {
		t.Errorf("ConeOf = %v, %d", k, code)
	}
	for _, pair := range [][2]impl.Complex{{fullComplex(6), complexOn(1)}, {complexOn(1), complexOn(6)}, {complexOn(4), complexOn(3)}, {fullComplex(6), fullComplex(6)}} {
		if k, code := impl.JoinOf(pair[0], pair[1]); code != impl.ErrLimit || !sameComplex(k, impl.Complex{}) {
			t.Errorf("JoinOf(%v) = %v, %d", pair, k, code)
		}
	}
	for _, six := range []impl.Complex{complexOn(6), fullComplex(6)} {
		if k, code := impl.ConeOf(six); code != impl.ErrLimit || !sameComplex(k, impl.Complex{}) {
			t.Errorf("ConeOf(%v) = %v, %d", six, k, code)
		}
	}
}

func TestRenumberByDefinition(t *testing.T) {
	for _, k := range append(smallComplexes(4), someComplexes(t, 6, 12)...) {
		for _, p := range permutations(k.Vertices) {
			var faces []int64
			for _, face := range k.Faces {
				moved := int64(0)
				for v := range k.Vertices {
					moved |= face >> v & 1 << p[v]
				}
				faces = append(faces, moved)
			}
			slices.Sort(faces)
			if got, code := impl.RenumberComplex(k, p); code != impl.ErrNone || !sameComplex(got, complexOn(k.Vertices, faces...)) {
				t.Fatalf("RenumberComplex(%v, %v) = %v, %d", k, p, got, code)
			}
		}
	}
}

func TestRenumberPutsPlacesAndNotOrigins(t *testing.T) {
	k, code := impl.RenumberComplex(parsed(t, "3:01,2"), []int64{1, 2, 0})
	if text, _ := impl.ComplexText(k); text != "3:0,12" || code != impl.ErrNone {
		t.Errorf("RenumberComplex = %q, %d", text, code)
	}
}

// Names and texts.

func TestNamedComplexes(t *testing.T) {
	for name, want := range map[string]string{
		"point": "1:0", "circle": "3:01,02,12", "square": "4:01,12,03,23", "sphere": "4:012,013,023,123", "ball": "4:0123",
		"bipyramid": "5:013,023,123,014,024,124", "octahedron": "6:024,124,034,134,025,125,035,135", "moebius": "5:012,123,014,034,234",
		"projective": "6:012,023,124,034,134,015,135,235,045,245", "wedge": "5:01,02,12,03,04,34", "tree": "6:01,12,13,34,35",
	} {
		k, code := impl.NamedComplex(name)
		if text, _ := impl.ComplexText(k); code != impl.ErrNone || text != want || !impl.IsComplex(k) {
			t.Errorf("NamedComplex(%q) = %q, %d", name, text, code)
		}
	}
	for _, name := range []string{"", "Point", "point ", " point", "poin", "1:0", "torus", "point\n", "circle,ball", "\xff"} {
		if k, code := impl.NamedComplex(name); code != impl.ErrNotFound || !sameComplex(k, impl.Complex{}) {
			t.Errorf("NamedComplex(%q) = %v, %d", name, k, code)
		}
	}
}

func TestComplexTextAtTheEdges(t *testing.T) {
	for want, k := range map[string]impl.Complex{
		"1:": complexOn(1), "6:": complexOn(6), "1:0": complexOn(1, 1), "6:5": complexOn(6, 32), "6:012345": fullComplex(6),
		"3:0,2": complexOn(3, 1, 4), "4:01,12,03,23": named(t, "square"), "4:012,3": complexOn(4, 1, 2, 3, 4, 5, 6, 7, 8),
	} {
		if text, code := impl.ComplexText(k); code != impl.ErrNone || text != want {
			t.Errorf("ComplexText(%v) = %q, %d; want %q", k, text, code, want)
		}
	}
}

// TestParseComplexOnAllShortTexts goes through all texts of few characters: only those that
// complexes have are accepted.
func TestParseComplexOnAllShortTexts(t *testing.T) {
	owners := map[string]impl.Complex{}
	for _, k := range smallComplexes(3) {
		text, _ := impl.ComplexText(k)
		owners[text] = k
	}
	const most = 7
	layer := []string{""}
	for range most + 1 {
		var longer []string
		for _, text := range layer {
			checkParse(t, text, owners)
			for _, c := range "0123:," {
				longer = append(longer, text+string(c))
			}
		}
		layer = longer
	}
}

func checkParse(t *testing.T, text string, owners map[string]impl.Complex) {
	t.Helper()
	want, ok := owners[text]
	wantCode := int64(impl.ErrSyntax)
	if ok {
		wantCode = impl.ErrNone
	}
	if k, code := impl.ParseComplex(text); code != wantCode || !sameComplex(k, want) {
		t.Fatalf("ParseComplex(%q) = %v, %d; want %v, %d", text, k, code, want, wantCode)
	}
}

func TestParseComplexRefuses(t *testing.T) {
	for _, text := range []string{
		"", ":", "3", "3 :", "0:", "7:", "7:0", "-1:", "+3:01", "03:0", "33:0", "3;01", "3:01,", "3:,01", "3:01,,12", "3:01;12",
		"3:01 ", " 3:01", "3:01\n", "3: 01", "3:01, 12", "3:12,01", "3:0,01", "3:01,0", "3:01,01", "3:10", "3:00", "3:3", "3:03",
		"6:6", "6:0123456", "6:012345,0", "6:543210", "4:01,03,12,23", "3:01:", "3::01", "3:a", "3:0/", "3:\x00", "3:\u0660", "a:0", "/:", "\xff:", "3\xff",
		"\u0663:0", "9999999999999999999999:0", strings.Repeat("3", 5000), "3:" + strings.Repeat(",", 5000), "3:" + strings.Repeat("0,", 5000) + "0",
	} {
		if k, code := impl.ParseComplex(text); code != impl.ErrSyntax || !sameComplex(k, impl.Complex{}) {
			t.Errorf("ParseComplex(%q) = %v, %d", text, k, code)
		}
	}
}

func TestParseComplexAccepts(t *testing.T) {
	for text, want := range map[string]impl.Complex{
		"1:": complexOn(1), "6:": complexOn(6), "1:0": complexOn(1, 1), "6:012345": fullComplex(6), "6:5": complexOn(6, 32),
		"3:2": complexOn(3, 4), "3:01,2": complexOn(3, 1, 2, 3, 4), "4:01,12,03,23": complexOn(4, 1, 2, 3, 4, 6, 8, 9, 12),
	} {
		if k, code := impl.ParseComplex(text); code != impl.ErrNone || !sameComplex(k, want) {
			t.Errorf("ParseComplex(%q) = %v, %d; want %v", text, k, code, want)
		}
	}
}
