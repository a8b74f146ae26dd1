package tests

import (
	"math"
	"slices"
	"testing"

	"loop.example/g01348/impl"
)

// result9 has the results of a function of chapter 9, those that it does not return as zero values.
type result9 struct {
	result5
	number int64
}

func (r result9) isZero() bool { return r.result5.isZero() && r.number == 0 }

func (r result9) kept() result9 { return result9{r.result5.kept(), r.number} }

func (r result9) equals(o result9) bool {
	return r.result5.equals(o.result5) && r.number == o.number
}

// arguments9 has the arguments of a function of chapter 9: complexes, lists and a number.
type arguments9 struct {
	k, l, m impl.Complex
	a, b    []int64
	x       int64
}

// call9 is a function of chapter 9, and the number of complexes that it takes.
type call9 struct {
	name      string
	complexes int
	run       func(g arguments9) result9
}

// fibreCalls9 returns the functions of chapter 9 with a face of l.
func fibreCalls9() []call9 {
	return []call9{
		{"FibreOf", 2, func(g arguments9) (r result9) {
			r.complex, r.code = impl.FibreOf(g.k, g.l, g.a, g.x)
			return r
		}},
		{"OpenFibre", 2, func(g arguments9) (r result9) {
			r.list, r.code = impl.OpenFibre(g.k, g.l, g.a, g.x)
			return r
		}},
	}
}

// twoMapCalls9 returns the functions of chapter 9 with two maps.
func twoMapCalls9() []call9 {
	return []call9{
		{"ComposeMaps", 3, func(g arguments9) (r result9) {
			r.list, r.code = impl.ComposeMaps(g.k, g.l, g.m, g.a, g.b)
			return r
		}},
		{"AreContiguous", 2, func(g arguments9) (r result9) {
			r.flag, r.code = impl.AreContiguous(g.k, g.l, g.a, g.b)
			return r
		}},
	}
}

// fixedFaces9 is the function of chapter 9 with a map of k to k.
func fixedFaces9() call9 {
	return call9{"FixedFaces", 1, func(g arguments9) (r result9) {
		r.list, r.code = impl.FixedFaces(g.k, g.a)
		return r
	}}
}

// oneMapCalls9 returns the functions of chapter 9 with a simplicial map alone.
func oneMapCalls9() []call9 {
	return []call9{
		{"ImageComplex", 2, func(g arguments9) (r result9) {
			r.complex, r.code = impl.ImageComplex(g.k, g.l, g.a)
			return r
		}},
		{"PairingByFibres", 2, func(g arguments9) (r result9) {
			r.pairs, r.code = impl.PairingByFibres(g.k, g.l, g.a)
			return r
		}},
	}
}

// simplicialCalls9 returns the functions of chapter 9 with a simplicial map a.
func simplicialCalls9() []call9 {
	return append(slices.Concat(fibreCalls9(), oneMapCalls9(), twoMapCalls9()), fixedFaces9())
}

// isSimplicial9 is the function of chapter 9 with any map.
func isSimplicial9() call9 {
	return call9{"IsSimplicial", 2, func(g arguments9) (r result9) {
		r.flag, r.code = impl.IsSimplicial(g.k, g.l, g.a)
		return r
	}}
}

// isMap9 is the function of chapter 9 with any list.
func isMap9() call9 {
	return call9{"IsMap", 2, func(g arguments9) (r result9) {
		r.flag, r.code = impl.IsMap(g.k, g.l, g.a)
		return r
	}}
}

// calls9 returns the functions of chapter 9.
func calls9() []call9 {
	return append(simplicialCalls9(), isSimplicial9(), isMap9(),
		call9{"FindIsomorphism", 2, func(g arguments9) (r result9) {
			r.list, r.code = impl.FindIsomorphism(g.k, g.l)
			return r
		}},
		call9{"CountAutomorphisms", 1, func(g arguments9) (r result9) {
			r.number, r.code = impl.CountAutomorphisms(g.k)
			return r
		}},
		call9{"PairingByVertex", 1, func(g arguments9) (r result9) {
			r.pairs, r.code = impl.PairingByVertex(g.k, g.x)
			return r
		}},
		call9{"CountSimplicial", 2, func(g arguments9) (r result9) {
			r.number, r.code = impl.CountSimplicial(g.k, g.l)
			return r
		}},
	)
}

// checkCode9 checks that a function returns an error code, and zero values beside it.
func checkCode9(t *testing.T, c call9, g arguments9, code int64) {
	t.Helper()
	if r := c.run(g); r.code != code || !r.isZero() {
		t.Fatalf("%s of %v: %v; want %d", c.name, g, r, code)
	}
}

// TestInvalidComplexesComeAheadOfMaps gives invalid complexes in each place, along with lists and
// numbers that are as told, with some that are not, and with too many vertices.
func TestInvalidComplexesComeAheadOfMaps(t *testing.T) {
	large := fullComplex(6)
	large.Faces = large.Faces[1:]
	for _, bad := range append(invalidComplexes(), large, complexOn(5, 3), complexOn(6, 63)) {
		for _, good := range []impl.Complex{complexOn(1), fullComplex(2), named(t, "circle"), fullComplex(6)} {
			for _, list := range [][]int64{nil, {0}, {0, 1}, {0, 2}, {0, 1, 2}, {-1, 0}, {0, 0, 0, 0, 0, 0}} {
				for _, x := range []int64{0, 1, 3, -1, 64, math.MinInt64} {
					for _, c := range calls9() {
						for _, complexes := range [][]impl.Complex{{bad, good, good}, {good, bad, good}, {good, good, bad}, {bad, bad, bad}} {
							if slices.IndexFunc(complexes, func(k impl.Complex) bool { return !impl.IsComplex(k) }) < c.complexes {
								checkCode9(t, c, arguments9{complexes[0], complexes[1], complexes[2], list, list, x}, impl.ErrInvalid)
							}
						}
					}
				}
			}
		}
	}
}

// TestNoVerticesAndTheEmptyList takes complexes without Vertices, which are none, and the empty list, which
// is no map, as each complex has a vertex.
func TestNoVerticesAndTheEmptyList(t *testing.T) {
	none := impl.Complex{}
	for _, c := range calls9() {
		checkCode9(t, c, arguments9{}, impl.ErrInvalid)
		checkCode9(t, c, arguments9{k: none, l: complexOn(1), m: complexOn(1)}, impl.ErrInvalid)
	}
	for n := int64(1); n <= impl.MaxVertices; n++ {
		for _, c := range append(simplicialCalls9(), isSimplicial9()) {
			checkCode9(t, c, arguments9{k: complexOn(n), l: complexOn(n, 1), m: complexOn(n), x: 1}, impl.ErrRange)
		}
		for _, list := range [][]int64{nil, {}} {
			if yes, code := impl.IsMap(complexOn(n), complexOn(n), list); code != impl.ErrNone || yes {
				t.Errorf("IsMap of %d Vertices and %v = %v, %d", n, list, yes, code)
			}
		}
	}
}

// listsThatAreNoMaps returns lists that are no map of a complex with three Vertices to another one.
func listsThatAreNoMaps() [][]int64 {
	lists := [][]int64{nil, {}, {0}, {0, 1}, {2, 2}, {0, 1, 2, 0}, {0, 1, 2, 2}, {0, 0, 0, 0, 0, 0}, {0, 1, 2, 3}, {3}, {-1}, make([]int64, 5000), slices.Repeat([]int64{math.MaxInt64}, 5000)}
	for _, bad := range append([]int64{-1, 3, -2, 4, 5, 6, 63, 64, -64, 1 << 31}, hugeNumbers()...) {
		lists = append(lists, []int64{bad, 0, 0}, []int64{0, bad, 0}, []int64{1, 1, bad}, []int64{bad, bad, bad}, []int64{0, 1, 2, bad})
	}
	return lists
}

func TestListsThatAreNoMaps(t *testing.T) {
	triangle, circle := fullComplex(3), named(t, "circle")
	for _, list := range listsThatAreNoMaps() {
		for _, k := range []impl.Complex{complexOn(3), circle, triangle} {
			for _, l := range []impl.Complex{complexOn(3), circle, triangle} {
				checkNoMap(t, k, l, list)
			}
		}
	}
}

// checkNoMap gives a list that is no map of k to l, both with three Vertices, in the place of each map,
// along with other arguments that are as told, with some that are not, and with maps that may not be
// simplicial.
func checkNoMap(t *testing.T, k, l impl.Complex, list []int64) {
	t.Helper()
	if yes, code := impl.IsMap(k, l, list); code != impl.ErrNone || yes {
		t.Fatalf("IsMap(%v, %v, %v) = %v, %d", k, l, list, yes, code)
	}
	checkCode9(t, isSimplicial9(), arguments9{k: k, l: l, a: list}, impl.ErrRange)
	for _, x := range []int64{1, 7, 0, -1} {
		for _, other := range [][]int64{{0, 0, 0}, {0, 1, 2}, {2, 1, 0}, nil, {3, 3, 3}, list} {
			for _, c := range simplicialCalls9() {
				checkCode9(t, c, arguments9{k, l, l, list, other, x}, impl.ErrRange)
			}
			for _, c := range twoMapCalls9() {
				checkCode9(t, c, arguments9{k, l, l, other, list, x}, impl.ErrRange)
			}
		}
	}
}

// TestMapsBetweenComplexesOfOtherVertices gives lists that are maps only in the other direction, or only
// of other complexes.
func TestMapsBetweenComplexesOfOtherVertices(t *testing.T) {
	for _, c := range []struct {
		k, l impl.Complex
		list []int64
		code int64
	}{
		{fullComplex(2), fullComplex(6), []int64{5, 5}, impl.ErrNone}, {fullComplex(6), fullComplex(2), []int64{5, 5}, impl.ErrRange}, {fullComplex(2), fullComplex(5), []int64{5, 5}, impl.ErrRange},
		{fullComplex(6), fullComplex(2), []int64{0, 1, 1, 1, 0, 1}, impl.ErrNone}, {fullComplex(2), fullComplex(6), []int64{0, 1, 1, 1, 0, 1}, impl.ErrRange}, {fullComplex(6), fullComplex(1), []int64{0, 1, 1, 1, 0, 1}, impl.ErrRange},
		{complexOn(6), complexOn(1), []int64{0, 0, 0, 0, 0, 0}, impl.ErrNone}, {complexOn(5), complexOn(1), []int64{0, 0, 0, 0, 0, 0}, impl.ErrRange}, {complexOn(1), complexOn(1), []int64{1}, impl.ErrRange}, {complexOn(1), complexOn(2), []int64{1}, impl.ErrNone},
	} {
		if yes, code := impl.IsMap(c.k, c.l, c.list); code != impl.ErrNone || yes != (c.code == impl.ErrNone) {
			t.Errorf("IsMap(%v, %v, %v) = %v, %d", c.k, c.l, c.list, yes, code)
		}
		if yes, code := impl.IsSimplicial(c.k, c.l, c.list); code != c.code || yes != (c.code == impl.ErrNone) {
			t.Errorf("IsSimplicial(%v, %v, %v) = %v, %d", c.k, c.l, c.list, yes, code)
		}
		if got, code := impl.ImageComplex(c.k, c.l, c.list); code != c.code || code != impl.ErrNone && !sameComplex(got, impl.Complex{}) {
			t.Errorf("ImageComplex(%v, %v, %v) = %v, %d", c.k, c.l, c.list, got, code)
		}
	}
}

// TestComposeMapsThatDoNotMeet gives second maps of another complex than the first one goes to.
func TestComposeMapsThatDoNotMeet(t *testing.T) {
	compose := twoMapCalls9()[0]
	for n := int64(1); n <= impl.MaxVertices; n++ {
		for length := int64(1); length <= impl.MaxVertices; length++ {
			g := arguments9{k: fullComplex(3), l: fullComplex(n), m: fullComplex(2), a: []int64{0, 0, n - 1}, b: make([]int64, length)}
			if r := compose.run(g); r.code != impl.ErrNone && n == length {
				t.Errorf("ComposeMaps of %v: %v", g, r)
			}
			if n != length {
				checkCode9(t, compose, g, impl.ErrRange)
			}
			g.b[length-1] = 2
			checkCode9(t, compose, g, impl.ErrRange)
		}
	}
}

// TestFibresOfNumbersThatAreNoFaces takes maps that are simplicial, and some that are not: ErrRange
// comes ahead.
func TestFibresOfNumbersThatAreNoFaces(t *testing.T) {
	k := named(t, "circle")
	for _, x := range append([]int64{0, -1, -3, 7, 8, 9, 16, 63, 64, 65}, hugeNumbers()...) {
		for _, list := range [][]int64{{0, 1, 2}, {2, 2, 2}, {0, 1, 1}} {
			for _, l := range []impl.Complex{named(t, "circle"), complexOn(3, 1, 2, 3, 4), complexOn(3, 1, 2, 4), complexOn(3)} {
				for _, c := range fibreCalls9() {
					checkCode9(t, c, arguments9{k: k, l: l, a: list, x: x}, impl.ErrRange)
				}
			}
		}
	}
	for x := int64(-1); x <= 65; x++ { // faces of k that are none of l
		for _, k := range []impl.Complex{fullComplex(6), complexOn(6)} {
			for _, c := range fibreCalls9() {
				if x != 1 {
					checkCode9(t, c, arguments9{k: k, l: complexOn(6, 1), a: make([]int64, 6), x: x}, impl.ErrRange)
				} else if r := c.run(arguments9{k: k, l: complexOn(6, 1), a: make([]int64, 6), x: x}); r.code != impl.ErrNone {
					t.Errorf("%s of %v: %v", c.name, k, r)
				}
			}
		}
	}
}

// TestMapsThatAreNotSimplicial gives them in the place of each map, along with simplicial maps and
// others.
func TestMapsThatAreNotSimplicial(t *testing.T) {
	ball, sphere, square := named(t, "ball"), named(t, "sphere"), named(t, "square")
	for _, c := range []struct {
		k, l impl.Complex
		list []int64
	}{
		{ball, sphere, []int64{0, 1, 2, 3}}, {ball, sphere, []int64{2, 1, 3, 0}}, {sphere, square, []int64{0, 1, 2, 3}}, {square, square, []int64{0, 2, 1, 3}}, {square, square, []int64{0, 2, 0, 2}},
		{complexOn(4, 8), complexOn(4, 1), []int64{0, 0, 0, 1}}, {complexOn(4, 1), complexOn(4, 1), []int64{3, 0, 0, 0}}, {complexOn(4, 1), complexOn(4), []int64{0, 0, 0, 0}}, {ball, complexOn(4, 1), []int64{1, 1, 1, 1}},
	} {
		if yes, code := impl.IsSimplicial(c.k, c.l, c.list); code != impl.ErrNone || yes {
			t.Errorf("IsSimplicial(%v, %v, %v) = %v, %d", c.k, c.l, c.list, yes, code)
		}
		for _, x := range c.l.Faces {
			for _, call := range fibreCalls9() {
				checkCode9(t, call, arguments9{k: c.k, l: c.l, a: c.list, x: x}, impl.ErrState)
			}
		}
		for _, other := range [][]int64{{0, 0, 0, 0}, {0, 1, 2, 3}, {3, 2, 1, 0}, c.list} {
			for _, call := range append(oneMapCalls9(), twoMapCalls9()...) {
				checkCode9(t, call, arguments9{k: c.k, l: c.l, m: ball, a: c.list, b: other}, impl.ErrState)
			}
			for _, call := range twoMapCalls9() {
				g := arguments9{k: c.k, l: c.l, a: other, b: c.list}
				if call.name == "ComposeMaps" { // its second map goes on from l to m
					g.l, g.m = c.k, c.l
				}
				checkCode9(t, call, g, impl.ErrState)
			}
		}
	}
	for _, list := range [][]int64{{0, 2, 1, 3}, {0, 2, 0, 2}, {0, 0, 0, 2}, {1, 3, 2, 0}} {
		checkCode9(t, fixedFaces9(), arguments9{k: square, a: list}, impl.ErrState)
	}
	checkCode9(t, fixedFaces9(), arguments9{k: complexOn(2, 1), a: []int64{1, 1}}, impl.ErrState)
}

// TestCodesOfAllSampleMaps asks for maps of all kinds.
func TestCodesOfAllSampleMaps(t *testing.T) {
	seen := map[int64]int{}
	mapSamples(t, func(k, l impl.Complex, list []int64) {
		want := int64(impl.ErrNone)
		if !isSimplicialByRule(k, l, list) {
			want = impl.ErrState
		}
		seen[want]++
		for _, c := range simplicialCalls9() {
			if c.complexes == 1 || len(l.Faces) == 0 {
				continue
			}
			g := arguments9{k, l, fullComplex(1), list, list, l.Faces[0]}
			if c.complexes == 3 {
				g.b = make([]int64, l.Vertices)
			}
			if r := c.run(g); r.code != want || want != impl.ErrNone && !r.isZero() {
				t.Fatalf("%s of %v: %v; want %d", c.name, g, r, want)
			}
		}
	})
	if seen[impl.ErrNone] < 5000 || seen[impl.ErrState] < 1000 {
		t.Errorf("the samples are too few: %v", seen)
	}
}

func TestIsomorphismsOfOtherNumbersOfVertices(t *testing.T) {
	for n := int64(1); n <= impl.MaxVertices; n++ {
		for m := int64(1); m <= impl.MaxVertices; m++ {
			for _, k := range []impl.Complex{complexOn(n), complexOn(n, 1), fullComplex(n)} {
				for _, l := range []impl.Complex{complexOn(m), complexOn(m, 1), fullComplex(m)} {
					want := int64(impl.ErrNotFound)
					if n != m {
						want = impl.ErrState
					} else if len(k.Faces) == len(l.Faces) {
						want = impl.ErrNone
					}
					if list, code := impl.FindIsomorphism(k, l); code != want || int64(len(list)) != n && want == impl.ErrNone || len(list) > 0 && want != impl.ErrNone {
						t.Errorf("FindIsomorphism(%v, %v) = %v, %d; want %d", k, l, list, code, want)
					}
				}
			}
		}
	}
}

func TestPairingByVertexOutOfRange(t *testing.T) {
	for n := int64(1); n <= impl.MaxVertices; n++ {
		for _, k := range []impl.Complex{complexOn(n), complexOn(n, 1), fullComplex(n)} {
			for _, v := range append([]int64{-1, -2, n, n + 1, 6, 7, 63, 64, 65}, hugeNumbers()...) {
				if pairs, code := impl.PairingByVertex(k, v); code != impl.ErrRange || len(pairs) > 0 {
					t.Errorf("PairingByVertex(%v, %d) = %v, %d", k, v, pairs, code)
				}
			}
			for v := range n {
				if _, code := impl.PairingByVertex(k, v); code != impl.ErrNone {
					t.Errorf("PairingByVertex(%v, %d): code %d", k, v, code)
				}
			}
		}
	}
}

func TestCountSimplicialAtAndBeyondItsLimits(t *testing.T) {
	for n := int64(1); n <= impl.MaxVertices; n++ {
		for m := int64(1); m <= impl.MaxVertices; m++ {
			for _, k := range []impl.Complex{complexOn(n), complexOn(n, 1), fullComplex(n)} {
				for _, l := range []impl.Complex{complexOn(m), complexOn(m, 1), fullComplex(m)} {
					if count, code := impl.CountSimplicial(k, l); n <= 5 && m <= 4 {
						if code != impl.ErrNone || count != countByRule(k, l) {
							t.Errorf("CountSimplicial(%v, %v) = %d, %d", k, l, count, code)
						}
					} else if code != impl.ErrRange || count != 0 {
						t.Errorf("CountSimplicial(%v, %v) = %d, %d", k, l, count, code)
					}
				}
			}
		}
	}
}

// arguments9WithRoom returns arguments with spare capacity behind all lists.
func arguments9WithRoom(g arguments9) arguments9 {
	roomy := func(list []int64) []int64 {
		return append(slices.Clone(list), slices.Repeat([]int64{77}, 40)...)[:len(list)]
	}
	g.k.Faces, g.l.Faces, g.m.Faces, g.a, g.b = roomy(g.k.Faces), roomy(g.l.Faces), roomy(g.m.Faces), roomy(g.a), roomy(g.b)
	return g
}

// whole9 returns a copy of the lists of arguments with what is behind them.
func whole9(g arguments9) [][]int64 {
	var lists [][]int64
	for _, list := range [][]int64{g.k.Faces, g.l.Faces, g.m.Faces, g.a, g.b} {
		lists = append(lists, slices.Clone(list[:cap(list)]))
	}
	return lists
}

// TestMapsLeaveArgumentsAndGiveNewResults gives lists with spare capacity, spoils each result, and looks
// whether the arguments or a second result have changed.
func TestMapsLeaveArgumentsAndGiveNewResults(t *testing.T) {
	circle, ball := named(t, "circle"), named(t, "ball")
	for _, g := range []arguments9{
		{complexOn(1), complexOn(1), complexOn(1), []int64{0}, []int64{0}, 1}, {complexOn(6), complexOn(6), complexOn(6), []int64{0, 1, 2, 3, 4, 5}, []int64{1, 2, 3, 4, 5, 0}, 0}, {complexOn(1, 1), complexOn(1, 1), complexOn(1, 1), []int64{0}, []int64{0}, 1},
		{circle, circle, circle, []int64{0, 1, 2}, []int64{0, 1, 2}, 3}, {circle, circle, circle, []int64{2, 2, 1}, []int64{1, 2, 0}, 4}, {circle, fullComplex(3), circle, []int64{1, 0, 2}, []int64{1, 1, 0}, 1}, {ball, ball, ball, []int64{0, 0, 1, 1}, []int64{3, 2, 1, 0}, 2},
		{named(t, "square"), named(t, "sphere"), ball, []int64{3, 1, 2, 1}, []int64{1, 0, 2, 2}, 2}, {fullComplex(6), fullComplex(6), fullComplex(6), []int64{5, 4, 3, 3, 2, 2}, []int64{0, 1, 2, 3, 4, 5}, 4},
		{circle, complexOn(3, 1), circle, []int64{0, 1, 2}, []int64{0, 1}, 1}, // with errors
	} {
		given := arguments9WithRoom(g)
		before := whole9(given)
		for _, call := range calls9() {
			first := call.run(given)
			kept := first.kept()
			first.spoil()
			if second := call.run(given); !second.equals(kept) {
				t.Errorf("%s of %v: %v, then %v", call.name, g, kept, second)
			}
			if after := whole9(given); !sameRows(after, before) {
				t.Fatalf("%s changed its arguments: %v", call.name, after)
			}
		}
	}
}

// TestMapsGiveTheSameAgainAndInParallel calls the functions several times, also from several goroutines,
// as none keeps state between calls, nor does a result depend on who is first.
func TestMapsGiveTheSameAgainAndInParallel(t *testing.T) {
	k := madeOf(t, "4:012,23")
	g := arguments9{k, k, fullComplex(4), []int64{0, 1, 2, 2}, []int64{1, 0, 2, 2}, 2}
	for _, call := range calls9() {
		want := call.run(g)
		results := make(chan result9)
		for range 8 {
			go func() {
				for range 8 {
					results <- call.run(g)
				}
			}()
		}
		for range 64 {
			if r := <-results; !r.equals(want) || r.code != impl.ErrNone || r.isZero() {
				t.Errorf("%s: %v, want %v", call.name, r, want)
			}
		}
	}
}
