package tests

import (
	"math"
	"slices"
	"testing"

	"loop.example/g01348/impl"
)

// result8 has the results of a function of chapter 8, those that it does not return as zero values.
type result8 struct {
	rows   [][]int64
	pairs  []impl.Pair
	list   []int64
	number int64
	flag   bool
	code   int64
}

// isZero reports whether all results but the code are zero values.
func (r result8) isZero() bool {
	return len(r.rows) == 0 && len(r.pairs) == 0 && len(r.list) == 0 && r.number == 0 && !r.flag
}

// kept returns a copy of the results.
func (r result8) kept() result8 {
	r.rows = slices.Clone(r.rows)
	for i := range r.rows {
		r.rows[i] = slices.Clone(r.rows[i])
	}
	r.pairs, r.list = slices.Clone(r.pairs), slices.Clone(r.list)
	return r
}

// equals reports whether two results are equal.
func (r result8) equals(o result8) bool {
	return sameRows(r.rows, o.rows) && slices.Equal(r.pairs, o.pairs) && slices.Equal(r.list, o.list) && r.number == o.number && r.flag == o.flag && r.code == o.code
}

// spoil overwrites the results and the spare capacity behind them.
func (r result8) spoil() {
	for _, row := range r.rows {
		spoil(row)
	}
	spoil(r.list)
	for i := range r.pairs[:cap(r.pairs)] {
		r.pairs[:cap(r.pairs)][i] = impl.Pair{-99, -99}
	}
	for i := range r.rows[:cap(r.rows)] {
		r.rows[:cap(r.rows)][i] = []int64{-99}
	}
}

// arguments8 has the arguments of a function of chapter 8; c is the list of numbers.
type arguments8 struct {
	k    impl.Complex
	list []impl.Pair
	c    []int64
}

// call8 is a function of chapter 8.
type call8 struct {
	name string
	run  func(g arguments8) result8
}

// soughtCalls8 returns the functions of chapter 8 with the limit MaxSought.
func soughtCalls8() []call8 {
	return []call8{
		{"LeastCritical", func(g arguments8) (r result8) {
			r.number, r.code = impl.LeastCritical(g.k)
			return r
		}},
		{"BestPairing", func(g arguments8) (r result8) {
			r.pairs, r.code = impl.BestPairing(g.k)
			return r
		}},
	}
}

// countedCalls8 returns the functions of chapter 8 with the limit MaxCounted.
func countedCalls8() []call8 {
	return []call8{
		{"CountAcyclic", func(g arguments8) (r result8) {
			r.number, r.code = impl.CountAcyclic(g.k)
			return r
		}},
		{"VectorsOf", func(g arguments8) (r result8) {
			r.rows, r.code = impl.VectorsOf(g.k)
			return r
		}},
	}
}

// pairingCalls8 returns the functions of chapter 8 with a pairing.
func pairingCalls8() []call8 {
	return []call8{
		{"IsFullPairing", func(g arguments8) (r result8) {
			r.flag, r.code = impl.IsFullPairing(g.k, g.list)
			return r
		}},
		{"FillPairing", func(g arguments8) (r result8) {
			r.pairs, r.code = impl.FillPairing(g.k, g.list)
			return r
		}},
		{"IsPerfect", func(g arguments8) (r result8) {
			r.flag, r.code = impl.IsPerfect(g.k, g.list)
			return r
		}},
	}
}

// inequalities8 is the function of chapter 8 with a list of numbers.
func inequalities8() call8 {
	return call8{"InequalitiesFor", func(g arguments8) (r result8) {
		r.list, r.code = impl.InequalitiesFor(g.k, g.c)
		return r
	}}
}

// calls8 returns the functions of chapter 8.
func calls8() []call8 {
	return slices.Concat(soughtCalls8(), countedCalls8(), pairingCalls8(), []call8{inequalities8()})
}

// checkCode8 checks that a function returns an error code, and zero values beside it.
func checkCode8(t *testing.T, c call8, g arguments8, code int64) {
	t.Helper()
	if r := c.run(g); r.code != code || !r.isZero() {
		t.Errorf("%s of %v: %v; want %d", c.name, g, r, code)
	}
}

func TestLimitsOfChapter8(t *testing.T) {
	if impl.MaxSought != 20 || impl.MaxCounted != 13 {
		t.Errorf("MaxSought is %d, and MaxCounted %d", impl.MaxSought, impl.MaxCounted)
	}
}

// TestInvalidComplexesComeAheadOfBestPairings gives invalid complexes along with lists that are as
// told, with some that are not, and with more faces than the limits.
func TestInvalidComplexesComeAheadOfBestPairings(t *testing.T) {
	large := fullComplex(6)
	large.Faces = large.Faces[1:]
	for _, k := range append(invalidComplexes(), large, complexOn(5, fullComplex(6).Faces...), complexOn(7, fullComplex(6).Faces...), complexOn(6, slices.Repeat([]int64{1}, 40)...)) {
		for _, list := range [][]impl.Pair{nil, {{1, 3}}, {{3, 1}}, {{1, 3}, {2, 6}, {4, 5}}} {
			for _, c := range [][]int64{nil, {1}, {1, 1}, {1, 0, 0}, {-1}, {1001, 0}} {
				for _, call := range calls8() {
					checkCode8(t, call, arguments8{k, list, c}, impl.ErrInvalid)
				}
			}
		}
	}
}

// firstFaces returns the complex with six Vertices of the sets with the numbers up to one.
func firstFaces(count int64) impl.Complex {
	return complexOn(6, fullComplex(6).Faces[:count]...)
}

func TestComplexesAtAndBeyondTheLimits(t *testing.T) {
	check := func(call call8, k impl.Complex, limit int) {
		if r := call.run(arguments8{k: k}); len(k.Faces) > limit && (r.code != impl.ErrLimit || !r.isZero()) || len(k.Faces) <= limit && r.code != impl.ErrNone {
			t.Errorf("%s of %v with %d faces: %v", call.name, k, len(k.Faces), r)
		}
	}
	var complexes []impl.Complex
	for count := range int64(64) {
		complexes = append(complexes, firstFaces(count))
	}
	for _, count := range []int{13, 14, 20, 21} {
		complexes = append(complexes, cutTo(t, count)...)
	}
	for _, name := range []string{"point", "sphere", "ball", "bipyramid", "octahedron", "moebius", "projective", "tree"} {
		complexes = append(complexes, named(t, name))
	}
	for _, k := range complexes {
		for _, call := range soughtCalls8() {
			check(call, k, 20)
		}
		for _, call := range countedCalls8() {
			check(call, k, 13)
		}
	}
}

// TestPairingsOfLargeComplexes takes complexes beyond the limits, which do not hold here.
func TestPairingsOfLargeComplexes(t *testing.T) {
	for count := range int64(64) {
		k := firstFaces(count)
		full, one := impl.IsFullPairing(k, nil)
		filled, two := impl.FillPairing(k, nil)
		perfect, three := impl.IsPerfect(k, filled)
		answers, four := impl.InequalitiesFor(k, make([]int64, topDimension(k)+1))
		if one != impl.ErrNone || two != impl.ErrNone || three != impl.ErrNone || four != impl.ErrNone {
			t.Fatalf("%v: codes %d, %d, %d, %d", k, one, two, three, four)
		}
		if full != (count < 3) || !isAcyclicByRule(k, filled) || perfect != slices.Equal(vectorByRule(k, filled), bettiOf(k, 2)) || len(answers) != 3 {
			t.Errorf("%v: %v, %v, %v, %v", k, full, filled, perfect, answers)
		}
	}
}

func TestBestPairingsOfListsThatAreNoPairings(t *testing.T) {
	for _, call := range pairingCalls8() {
		for _, list := range listsThatAreNoPairings() {
			checkCode8(t, call, arguments8{k: fullComplex(3), list: list}, impl.ErrRange)
		}
		for _, n := range []int64{1, 3, 6} {
			checkCode8(t, call, arguments8{k: complexOn(n), list: []impl.Pair{{1, 3}}}, impl.ErrRange)
			checkCode8(t, call, arguments8{k: complexOn(n, 1), list: []impl.Pair{{0, 1}}}, impl.ErrRange)
		}
		// The first three pairs go around, but the list is no pairing.
		for _, p := range []impl.Pair{{4, 5}, {4, 6}, {4, 7}, {8, 16}, {3, 7}} {
			checkCode8(t, call, arguments8{k: madeOf(t, "4:01,02,12,03"), list: []impl.Pair{{1, 3}, {2, 6}, {4, 5}, p}}, impl.ErrRange)
		}
		checkCode8(t, call, arguments8{k: named(t, "circle"), list: []impl.Pair{{2, 6}, {1, 3}, {4, 5}}}, impl.ErrRange)
	}
}

func TestBestPairingsOfPairingsThatAreNotAcyclic(t *testing.T) {
	for _, c := range []struct {
		text string
		list []impl.Pair
	}{
		{"3:01,02,12", []impl.Pair{{1, 3}, {2, 6}, {4, 5}}}, {"3:01,02,12", []impl.Pair{{1, 5}, {2, 3}, {4, 6}}}, {"4:01,02,12,03", []impl.Pair{{1, 3}, {2, 6}, {4, 5}}},
		{"4:01,02,12,03", []impl.Pair{{1, 3}, {2, 6}, {4, 5}, {8, 9}}}, {"4:012,013,023", []impl.Pair{{3, 7}, {5, 13}, {9, 11}}}, {"3:012", []impl.Pair{{1, 3}, {2, 6}, {4, 5}}},
		{"6:01,12,23,34,45,05", []impl.Pair{{1, 3}, {2, 6}, {4, 12}, {8, 24}, {16, 48}, {32, 33}}}, {"6:012345", []impl.Pair{{1, 3}, {2, 6}, {4, 5}}},
	} {
		for _, call := range pairingCalls8() {
			checkCode8(t, call, arguments8{k: madeOf(t, c.text), list: c.list}, impl.ErrState)
		}
	}
}

// TestCodesOfAllSamplePairings asks for pairings of all kinds.
func TestCodesOfAllSamplePairings(t *testing.T) {
	seen := map[int64]int{}
	samplePairings(t, func(k impl.Complex, list []impl.Pair) {
		want := int64(impl.ErrNone)
		if len(facesOnCyclesOf(k, list)) > 0 {
			want = impl.ErrState
		}
		seen[want]++
		for _, call := range pairingCalls8() {
			if r := call.run(arguments8{k: k, list: list}); r.code != want || want != impl.ErrNone && !r.isZero() {
				t.Fatalf("%s of %v, %v: %v; want %d", call.name, k, list, r, want)
			}
		}
	})
	if seen[impl.ErrNone] < 1000 || seen[impl.ErrState] < 200 {
		t.Errorf("the samples are too few: %v", seen)
	}
}

func TestInequalitiesForListsOfOtherLengths(t *testing.T) {
	for _, text := range []string{"1:", "6:", "1:0", "6:0,1", "3:01,02,12", "4:012,3", "4:0123", "6:01234", "6:012345"} {
		k := madeOf(t, text)
		for length := range int64(9) {
			want := int64(impl.ErrNone)
			if length != topDimension(k)+1 {
				want = impl.ErrRange
			}
			for _, number := range []int64{0, 1, 1000} {
				r := inequalities8().run(arguments8{k: k, c: slices.Repeat([]int64{number}, int(length))})
				if r.code != want || want != impl.ErrNone && !r.isZero() || want == impl.ErrNone && len(r.list) != 3 {
					t.Errorf("InequalitiesFor(%q) and %d numbers %d: %v", text, length, number, r)
				}
			}
		}
		checkCode8(t, inequalities8(), arguments8{k: k, c: make([]int64, 5000)}, impl.ErrRange)
	}
}

func TestInequalitiesForNumbersOutOfRange(t *testing.T) {
	for _, bad := range []int64{-1, 1001, -2, 1002, -1000, -1001, 1 << 32, 1<<32 + 1, -1 << 32, 1<<62 + 1, math.MaxInt64, math.MinInt64, math.MinInt64 + 1} {
		for length := 1; length <= impl.MaxVertices; length++ {
			for place := range length {
				c := slices.Repeat([]int64{1}, length)
				c[place] = bad
				checkCode8(t, inequalities8(), arguments8{k: fullComplex(int64(length)), c: c}, impl.ErrRange)
			}
		}
		checkCode8(t, inequalities8(), arguments8{k: complexOn(3), c: []int64{bad}}, impl.ErrRange)
	}
}

// arguments8WithRoom returns arguments with spare capacity behind all lists.
func arguments8WithRoom(g arguments8) arguments8 {
	faces, list, c := append(slices.Clone(g.k.Faces), slices.Repeat([]int64{77}, 40)...), append(slices.Clone(g.list), slices.Repeat([]impl.Pair{{77, 77}}, 40)...), append(slices.Clone(g.c), slices.Repeat([]int64{77}, 40)...)
	return arguments8{complexOn(g.k.Vertices, faces[:len(g.k.Faces)]...), list[:len(g.list)], c[:len(g.c)]}
}

// whole8 returns the lists of arguments with what is behind them.
func whole8(g arguments8) arguments8 {
	return arguments8{complexOn(g.k.Vertices, slices.Clone(g.k.Faces[:cap(g.k.Faces)])...), slices.Clone(g.list[:cap(g.list)]), slices.Clone(g.c[:cap(g.c)])}
}

// TestBestPairingsLeaveArgumentsAndGiveNewResults gives lists with spare capacity, spoils each result,
// and looks whether the arguments or a second result have changed.
func TestBestPairingsLeaveArgumentsAndGiveNewResults(t *testing.T) {
	for _, g := range []arguments8{
		{complexOn(1), nil, nil}, {complexOn(6), nil, nil}, {complexOn(1, 1), nil, []int64{1}}, {fullComplex(2), nil, []int64{1, 0}}, {fullComplex(2), []impl.Pair{{1, 3}}, []int64{2, 1}},
		{named(t, "circle"), nil, []int64{3, 3}}, {named(t, "circle"), []impl.Pair{{2, 6}}, []int64{1, 1}}, {named(t, "circle"), []impl.Pair{{2, 6}, {4, 5}}, []int64{0, 0}},
		{fullComplex(3), []impl.Pair{{3, 7}}, []int64{1, 2, 3}}, {madeOf(t, "4:012,013,023"), []impl.Pair{{4, 12}}, []int64{1, 0, 0}}, {fullComplex(6), []impl.Pair{{31, 63}}, []int64{1, 2, 3, 4, 5, 6}},
	} {
		given := arguments8WithRoom(g)
		before := whole8(given)
		for _, call := range calls8() {
			first := call.run(given)
			kept := first.kept()
			first.spoil()
			if second := call.run(given); !second.equals(kept) {
				t.Errorf("%s of %v: %v, then %v", call.name, g, kept, second)
			}
			after := whole8(given)
			if !slices.Equal(after.k.Faces, before.k.Faces) || !slices.Equal(after.list, before.list) || !slices.Equal(after.c, before.c) {
				t.Fatalf("%s changed its arguments: %v", call.name, after)
			}
		}
	}
}

// TestVectorsShareNoMemory spoils one vector at a time, and looks whether another one has changed.
func TestVectorsShareNoMemory(t *testing.T) {
	for _, k := range append(cutTo(t, 13), named(t, "circle"), fullComplex(3), complexOn(6, 1, 2, 4, 8, 16, 32), complexOn(1)) {
		vectors, code := impl.VectorsOf(k)
		kept := result8{rows: vectors}.kept()
		for i, vector := range vectors {
			spoil(vector)
			for j := range vectors {
				if j != i && !slices.Equal(vectors[j], kept.rows[j]) {
					t.Fatalf("VectorsOf(%v): code %d, vector %d has changed with %d", k, code, j, i)
				}
			}
			copy(vector, kept.rows[i])
		}
	}
}

// TestBestPairingsGiveTheSameAgainAndInParallel calls the functions several times, also from several
// goroutines, as none keeps state between calls, nor does a result depend on who is first.
func TestBestPairingsGiveTheSameAgainAndInParallel(t *testing.T) {
	g := arguments8{madeOf(t, "4:012,013,023"), []impl.Pair{{4, 12}}, []int64{2, 1, 0}}
	for _, call := range calls8() {
		want := call.run(g)
		results := make(chan result8)
		for range 8 {
			go func() {
				for range 4 {
					results <- call.run(g)
				}
			}()
		}
		for range 32 {
			if r := <-results; !r.equals(want) || r.code != impl.ErrNone {
				t.Errorf("%s: %v, want %v", call.name, r, want)
			}
		}
	}
}
