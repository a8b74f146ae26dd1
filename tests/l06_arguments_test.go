package tests

import (
	"math"
	"slices"
	"testing"

	"loop.example/g01348/impl"
)

// result6 has the results of a function of chapter 6, those that it does not return as zero values.
type result6 struct {
	rows   [][]int64
	pairs  []impl.Pair
	list   []int64
	number int64
	flag   bool
	code   int64
}

// isZero reports whether all results but the code are zero values.
func (r result6) isZero() bool {
	return len(r.rows) == 0 && len(r.pairs) == 0 && len(r.list) == 0 && r.number == 0 && !r.flag
}

// kept returns a copy of the results.
func (r result6) kept() result6 {
	r.rows = slices.Clone(r.rows)
	for i := range r.rows {
		r.rows[i] = slices.Clone(r.rows[i])
	}
	r.pairs, r.list = slices.Clone(r.pairs), slices.Clone(r.list)
	return r
}

// equals reports whether two results are equal.
func (r result6) equals(o result6) bool {
	return sameRows(r.rows, o.rows) && slices.Equal(r.pairs, o.pairs) && slices.Equal(r.list, o.list) && r.number == o.number && r.flag == o.flag && r.code == o.code
}

// spoil overwrites the results and the spare capacity behind them.
func (r result6) spoil() {
	for _, row := range r.rows {
		spoil(row)
	}
	spoil(r.list)
	for i := range r.pairs[:cap(r.pairs)] {
		r.pairs[:cap(r.pairs)][i] = impl.Pair{-99, -99}
	}
	for i := range r.rows[:cap(r.rows)] {
		r.rows[:cap(r.rows)][i] = []int64{-99}
	}
}

// arguments6 has the arguments of a function of chapter 6; x and y are its numbers.
type arguments6 struct {
	k     impl.Complex
	list  []impl.Pair
	chain []int64
	x, y  int64
}

// call6 is a function of chapter 6.
type call6 struct {
	name string
	run  func(g arguments6) result6
}

// faceCalls6 returns the functions of chapter 6 with critical faces: x, and one of one dimension less,
// y.
func faceCalls6() []call6 {
	return []call6{
		{"WaysBetween", func(g arguments6) (r result6) {
			r.number, r.code = impl.WaysBetween(g.k, g.list, g.x, g.y)
			return r
		}},
		{"CancelFaces", func(g arguments6) (r result6) {
			r.pairs, r.code = impl.CancelFaces(g.k, g.list, g.x, g.y)
			return r
		}},
		{"CriticalChain", func(g arguments6) (r result6) {
			r.list, r.code = impl.CriticalChain(g.k, g.list, g.x)
			return r
		}},
	}
}

// flowCalls6 returns the functions of chapter 6 with a pairing and a chain.
func flowCalls6() []call6 {
	return []call6{
		{"FlowOf", func(g arguments6) (r result6) {
			r.list, r.code = impl.FlowOf(g.k, g.list, g.chain)
			return r
		}},
		{"EndOfFlow", func(g arguments6) (r result6) {
			r.list, r.code = impl.EndOfFlow(g.k, g.list, g.chain)
			return r
		}},
	}
}

// pairingCalls6 returns the functions of chapter 6 with a pairing. The number of MorseBoundary is x.
func pairingCalls6() []call6 {
	return append(append(faceCalls6(), flowCalls6()...),
		call6{"MorseBoundary", func(g arguments6) (r result6) {
			r.rows, r.code = impl.MorseBoundary(g.k, g.list, g.x)
			return r
		}},
		call6{"HolesOf", func(g arguments6) (r result6) {
			r.list, r.code = impl.HolesOf(g.k, g.list)
			return r
		}},
	)
}

// calls6 returns the functions of chapter 6.
func calls6() []call6 {
	return append(pairingCalls6(), call6{"IsChain", func(g arguments6) (r result6) {
		r.flag, r.code = impl.IsChain(g.k, g.chain)
		return r
	}})
}

// checkCode6 checks that a function returns an error code, and zero values beside it.
func checkCode6(t *testing.T, c call6, g arguments6, code int64) {
	t.Helper()
	if r := c.run(g); r.code != code || !r.isZero() {
		t.Errorf("%s of %v: %v; want %d", c.name, g, r, code)
	}
}

// hugeNumbers are numbers that are far from all faces and dimensions.
func hugeNumbers() []int64 {
	return []int64{math.MinInt64, math.MaxInt64, math.MinInt64 + 1, math.MinInt64 + 4, 1 << 32, 1<<32 + 1, 1<<32 + 5, 1 << 62, 1<<62 + 4}
}

// TestInvalidComplexesComeAheadOfFlows gives invalid complexes along with lists and numbers that are
// as told, and with some that are not.
func TestInvalidComplexesComeAheadOfFlows(t *testing.T) {
	for _, k := range invalidComplexes() {
		for _, list := range [][]impl.Pair{nil, {{1, 3}}, {{3, 1}}, {{1, 3}, {2, 6}, {4, 5}}} {
			for _, chain := range [][]int64{nil, {1}, {2, 1}, {3, 5, 6}, {1, 3}} {
				for _, x := range []int64{1, 5, 0, 6, -1, math.MaxInt64} {
					for _, c := range calls6() {
						checkCode6(t, c, arguments6{k, list, chain, x, 4}, impl.ErrInvalid)
					}
				}
			}
		}
	}
}

func TestFlowsOfListsThatAreNoPairings(t *testing.T) {
	for _, list := range listsThatAreNoPairings() {
		for _, x := range []int64{4, 6, 0, -1} {
			for _, chain := range [][]int64{nil, {4}, {5, 6}, {6, 5}} {
				for _, c := range pairingCalls6() {
					checkCode6(t, c, arguments6{fullComplex(3), list, chain, x, 4}, impl.ErrRange)
				}
			}
		}
	}
	for _, c := range pairingCalls6() {
		checkCode6(t, c, arguments6{complexOn(3), []impl.Pair{{1, 3}}, nil, 1, 3}, impl.ErrRange)
		checkCode6(t, c, arguments6{madeOf(t, "4:012,123"), []impl.Pair{{3, 7}, {5, 13}}, []int64{3}, 14, 5}, impl.ErrRange)
	}
}

func TestFlowsOfListsThatAreNoChains(t *testing.T) {
	k := madeOf(t, "4:012,23")
	around := []impl.Pair{{1, 3}, {2, 6}, {4, 5}}
	for _, chain := range listsThatAreNoChains() {
		if got, code := impl.IsChain(k, chain); got || code != impl.ErrNone {
			t.Errorf("IsChain(%v) = %v, %d", chain, got, code)
		}
		for _, list := range [][]impl.Pair{nil, {{1, 3}, {2, 6}}, {{3, 7}, {8, 12}}, around} { // ahead of ErrState
			for _, c := range flowCalls6() {
				checkCode6(t, c, arguments6{k, list, chain, 0, 0}, impl.ErrRange)
			}
		}
	}
	for _, n := range []int64{1, 6} {
		for _, c := range flowCalls6() {
			checkCode6(t, c, arguments6{complexOn(n), nil, []int64{1}, 0, 0}, impl.ErrRange)
		}
		if got, code := impl.IsChain(complexOn(n), []int64{1}); got || code != impl.ErrNone {
			t.Errorf("IsChain without faces = %v, %d", got, code)
		}
		if got, code := impl.IsChain(complexOn(n), nil); !got || code != impl.ErrNone {
			t.Errorf("IsChain of the empty chain without faces = %v, %d", got, code)
		}
	}
}

func TestDimensionsBeyondBothEnds(t *testing.T) {
	circle, around, some := circlePairings()
	for _, p := range append([]int64{0, 6, -1, 7, -5, 64}, hugeNumbers()...) {
		for _, g := range []arguments6{{circle, some, nil, p, 0}, {circle, around, nil, p, 0}, {complexOn(6), nil, nil, p, 0}, {fullComplex(6), nil, nil, p, 0}} {
			if rows, code := impl.MorseBoundary(g.k, g.list, p); code != impl.ErrRange || len(rows) > 0 {
				t.Errorf("MorseBoundary of %v = %v, %d", g, rows, code)
			}
		}
	}
	for n := int64(1); n <= impl.MaxVertices; n++ {
		for p := int64(1); p <= 5; p++ {
			rows, code := impl.MorseBoundary(fullComplex(n), nil, p)
			if code != impl.ErrNone || !sameRows(rows, morseByRule(fullComplex(n), nil, p)) || (len(rows) > 0) != (p < n) {
				t.Errorf("MorseBoundary of all faces of %d and %d = %v, %d", n, p, rows, code)
			}
		}
	}
}

// TestFacesThatAreNotCritical gives numbers that are no faces, faces that are paired, and faces of
// wrong dimensions, for pairings that are acyclic, and for some that are not.
func TestFacesThatAreNotCritical(t *testing.T) {
	k := madeOf(t, "5:012,023,34") // critical in the first pairing: 4, 7, 9, 16
	first := []impl.Pair{{1, 3}, {2, 6}, {5, 13}, {8, 12}}
	around := []impl.Pair{{1, 3}, {2, 6}, {4, 5}}
	ways, cancel, chain := faceCalls6()[0], faceCalls6()[1], faceCalls6()[2]
	none := append([]int64{0, -1, -4, 10, 11, 15, 17, 31, 32, 64}, hugeNumbers()...)
	paired := []int64{1, 2, 3, 5, 6}
	for _, list := range [][]impl.Pair{first, around} {
		for _, x := range append(none, paired...) {
			for _, ends := range [][2]int64{{x, 16}, {x, 9}, {9, x}, {7, x}, {24, x}, {x, x}} {
				checkCode6(t, ways, arguments6{k, list, nil, ends[0], ends[1]}, impl.ErrRange)
				checkCode6(t, cancel, arguments6{k, list, nil, ends[0], ends[1]}, impl.ErrRange)
			}
			checkCode6(t, chain, arguments6{k, list, nil, x, 16}, impl.ErrRange)
		}
		for _, ends := range [][2]int64{{9, 9}, {16, 9}, {9, 7}, {7, 16}, {16, 7}, {16, 16}, {7, 7}} {
			checkCode6(t, ways, arguments6{k, list, nil, ends[0], ends[1]}, impl.ErrRange)
			checkCode6(t, cancel, arguments6{k, list, nil, ends[0], ends[1]}, impl.ErrRange)
		}
	}
	for _, c := range faceCalls6() { // without faces
		checkCode6(t, c, arguments6{complexOn(6), nil, nil, 3, 1}, impl.ErrRange)
		checkCode6(t, c, arguments6{complexOn(1), nil, nil, 0, 0}, impl.ErrRange)
	}
	for _, ends := range [][2]int64{{3, 0}, {1, 0}, {7, 0}, {0, 1}, {7, 1}, {7, 2}, {3, 8}} {
		checkCode6(t, ways, arguments6{fullComplex(3), nil, nil, ends[0], ends[1]}, impl.ErrRange)
		checkCode6(t, cancel, arguments6{fullComplex(3), nil, nil, ends[0], ends[1]}, impl.ErrRange)
	}
}

// TestFlowsOfPairingsThatAreNotAcyclic gives chains, faces and dimensions that have nothing to do with
// the cycle, too.
func TestFlowsOfPairingsThatAreNotAcyclic(t *testing.T) {
	for _, c := range []struct {
		text string
		list []impl.Pair
		ends [2]int64
	}{
		{"4:01,02,12,03", []impl.Pair{{1, 3}, {2, 6}, {4, 5}}, [2]int64{9, 8}}, {"5:01,02,12,34", []impl.Pair{{1, 3}, {2, 6}, {4, 5}}, [2]int64{24, 16}},
		{"5:01,02,12,34", []impl.Pair{{1, 5}, {2, 3}, {4, 6}}, [2]int64{24, 8}}, {"4:012,013,023", []impl.Pair{{3, 7}, {5, 13}, {9, 11}}, [2]int64{6, 4}},
		{"5:012,013,023,14", []impl.Pair{{2, 18}, {3, 7}, {5, 13}, {9, 11}}, [2]int64{6, 4}},
	} {
		k := madeOf(t, c.text)
		for _, call := range faceCalls6() {
			checkCode6(t, call, arguments6{k, c.list, nil, c.ends[0], c.ends[1]}, impl.ErrState)
		}
		for _, call := range flowCalls6() {
			for _, chain := range [][]int64{nil, {c.ends[0]}, {c.ends[1]}, {1, 2}} {
				checkCode6(t, call, arguments6{k, c.list, chain, 0, 0}, impl.ErrState)
			}
		}
		for p := int64(1); p <= 5; p++ {
			if rows, code := impl.MorseBoundary(k, c.list, p); code != impl.ErrState || len(rows) > 0 {
				t.Errorf("MorseBoundary(%q, %v, %d) = %v, %d", c.text, c.list, p, rows, code)
			}
		}
		if holes, code := impl.HolesOf(k, c.list); code != impl.ErrState || len(holes) > 0 {
			t.Errorf("HolesOf(%q, %v) = %v, %d", c.text, c.list, holes, code)
		}
	}
}

// TestCodesOfAllSmallPairings asks all functions for pairings of all kinds.
func TestCodesOfAllSmallPairings(t *testing.T) {
	seen := map[int64]int{}
	samplePairings(t, func(k impl.Complex, list []impl.Pair) {
		want := int64(impl.ErrNone)
		if len(facesOnCyclesOf(k, list)) > 0 {
			want = impl.ErrState
		}
		seen[want]++
		_, one := impl.HolesOf(k, list)
		_, two := impl.MorseBoundary(k, list, 1+int64(len(list))%5)
		_, three := impl.FlowOf(k, list, facesAt(k, 0))
		_, four := impl.EndOfFlow(k, list, facesAt(k, 1))
		if one != want || two != want || three != want || four != want {
			t.Fatalf("%v, %v: codes %d, %d, %d, %d; want %d", k, list, one, two, three, four, want)
		}
		for d := range topDimension(k) + 1 {
			for _, b := range criticalOf(k, list, d) {
				if _, code := impl.CriticalChain(k, list, b); code != want {
					t.Fatalf("CriticalChain(%v, %v, %d): code %d, want %d", k, list, b, code, want)
				}
				for _, a := range criticalOf(k, list, d-1) {
					_, one := impl.WaysBetween(k, list, b, a)
					_, two := impl.CancelFaces(k, list, b, a)
					if one != want || want == impl.ErrState && two != want || two != impl.ErrNone && two != impl.ErrState {
						t.Fatalf("%v, %v, %d, %d: codes %d, %d; want %d", k, list, b, a, one, two, want)
					}
				}
			}
		}
	})
	if seen[impl.ErrNone] < 1000 || seen[impl.ErrState] < 200 {
		t.Errorf("the samples are too few: %v", seen)
	}
}

// TestFlowsLeaveArgumentsAndGiveNewResults gives lists with spare capacity, spoils each result, and
// looks whether the arguments or a second result have changed.
func TestFlowsLeaveArgumentsAndGiveNewResults(t *testing.T) {
	for _, g := range []arguments6{
		{fullComplex(3), nil, []int64{3, 5}, 3, 1}, {fullComplex(3), []impl.Pair{{1, 3}}, []int64{1, 2}, 5, 4}, {fullComplex(3), []impl.Pair{{1, 3}, {2, 6}}, []int64{5}, 7, 5},
		{named(t, "circle"), []impl.Pair{{1, 3}}, []int64{3, 5, 6}, 5, 2}, {fullComplex(4), nil, []int64{7, 11}, 2, 1}, {fullComplex(4), nil, nil, 1, 1},
		{madeOf(t, "6:012,123,234,45"), []impl.Pair{{1, 3}, {2, 6}, {12, 14}, {32, 48}}, []int64{6, 12}, 28, 20}, {complexOn(6), nil, nil, 5, 0}, {fullComplex(6), nil, []int64{31, 47}, 3, 0},
	} {
		faces, list := append(slices.Clone(g.k.Faces), 77, 77, 77, 77), append(slices.Clone(g.list), impl.Pair{77, 77}, impl.Pair{77, 77}, impl.Pair{77, 77})
		chain := append(slices.Clone(g.chain), 77, 77, 77, 77, 77, 77)
		faceCopy, listCopy, chainCopy := slices.Clone(faces), slices.Clone(list), slices.Clone(chain)
		given := arguments6{complexOn(g.k.Vertices, faces[:len(g.k.Faces)]...), list[:len(g.list)], chain[:len(g.chain)], g.x, g.y}
		for _, c := range calls6() {
			first := c.run(given)
			kept := first.kept()
			first.spoil()
			if second := c.run(given); !second.equals(kept) {
				t.Errorf("%s of %v: %v, then %v", c.name, g, kept, second)
			}
			if !slices.Equal(faces, faceCopy) || !slices.Equal(list, listCopy) || !slices.Equal(chain, chainCopy) {
				t.Fatalf("%s changed its arguments: %v, %v, %v", c.name, faces, list, chain)
			}
		}
	}
}

// TestRowsShareNoMemory spoils one row at a time, and looks whether another one has changed.
func TestRowsShareNoMemory(t *testing.T) {
	for _, k := range []impl.Complex{named(t, "circle"), fullComplex(4), fullComplex(6)} {
		for p := int64(1); p <= 5; p++ {
			rows, code := impl.MorseBoundary(k, nil, p)
			kept := result6{rows: rows}.kept()
			for i, row := range rows {
				spoil(row)
				for j := range rows {
					if j > i && !slices.Equal(rows[j], kept.rows[j]) {
						t.Fatalf("MorseBoundary(%v, %d): code %d, row %d has changed with %d", k, p, code, j, i)
					}
				}
				copy(row, kept.rows[i])
			}
			if !sameRows(rows, kept.rows) {
				t.Fatalf("MorseBoundary(%v, %d): the rows share memory", k, p)
			}
		}
	}
}

// TestFlowsGiveTheSameInParallel calls the functions from several goroutines, as none keeps state
// between calls.
func TestFlowsGiveTheSameInParallel(t *testing.T) {
	g := arguments6{fullComplex(4), []impl.Pair{{1, 3}, {2, 6}}, []int64{3, 5}, 5, 4}
	for _, c := range calls6() {
		want := c.run(g)
		results := make(chan result6)
		for range 8 {
			go func() { results <- c.run(g) }()
		}
		for range 8 {
			if r := <-results; !r.equals(want) {
				t.Errorf("%s: %v, want %v", c.name, r, want)
			}
		}
	}
}
