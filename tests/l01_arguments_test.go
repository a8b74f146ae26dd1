package tests

import (
	"math"
	"slices"
	"testing"

	"loop.example/g01348/impl"
)

// call1 is a function of chapter 1 with all arguments given but the complex. It returns the lists
// of the result, whether every result is the zero value, and the code.
type call1 struct {
	name string
	run  func(impl.Complex) ([]int64, bool, int64)
}

func ofComplex(k impl.Complex, code int64) ([]int64, bool, int64) {
	return k.Faces, k.Vertices == 0 && len(k.Faces) == 0, code
}

func ofList(list []int64, code int64) ([]int64, bool, int64) { return list, len(list) == 0, code }

// calls1 returns the calls of chapter 1 with a number and a list.
func calls1(x int64, list []int64) []call1 {
	return append(callsWithNumber1(x),
		call1{"FacetsOf", func(k impl.Complex) ([]int64, bool, int64) { return ofList(impl.FacetsOf(k)) }},
		call1{"CountFaces", func(k impl.Complex) ([]int64, bool, int64) { return ofList(impl.CountFaces(k)) }},
		call1{"ComponentsOf", func(k impl.Complex) ([]int64, bool, int64) { return ofList(impl.ComponentsOf(k)) }},
		call1{"ConeOf", func(k impl.Complex) ([]int64, bool, int64) { return ofComplex(impl.ConeOf(k)) }},
		call1{"RenumberComplex", func(k impl.Complex) ([]int64, bool, int64) { return ofComplex(impl.RenumberComplex(k, list)) }},
		call1{"EulerNumber", func(k impl.Complex) ([]int64, bool, int64) {
			number, code := impl.EulerNumber(k)
			return nil, number == 0, code
		}},
		call1{"ComplexText", func(k impl.Complex) ([]int64, bool, int64) {
			text, code := impl.ComplexText(k)
			return nil, text == "", code
		}},
		call1{"JoinOf left", func(k impl.Complex) ([]int64, bool, int64) {
			return ofComplex(impl.JoinOf(k, complexOn(1, 1)))
		}},
		call1{"JoinOf right", func(k impl.Complex) ([]int64, bool, int64) {
			return ofComplex(impl.JoinOf(complexOn(1), k))
		}},
	)
}

func callsWithNumber1(x int64) []call1 {
	return []call1{
		{"FacesOf", func(k impl.Complex) ([]int64, bool, int64) { return ofList(impl.FacesOf(k, x)) }},
		{"LinkOf", func(k impl.Complex) ([]int64, bool, int64) { return ofComplex(impl.LinkOf(k, x)) }},
		{"StarOf", func(k impl.Complex) ([]int64, bool, int64) { return ofComplex(impl.StarOf(k, x)) }},
		{"PartOn", func(k impl.Complex) ([]int64, bool, int64) { return ofComplex(impl.PartOn(k, x)) }},
		{"SkeletonOf", func(k impl.Complex) ([]int64, bool, int64) { return ofComplex(impl.SkeletonOf(k, x)) }},
		{"TakeFace", func(k impl.Complex) ([]int64, bool, int64) { return ofComplex(impl.TakeFace(k, x)) }},
	}
}

// TestInvalidComplexesComeFirst gives invalid complexes along with numbers and lists that are in
// range, and with some that are not.
func TestInvalidComplexesComeFirst(t *testing.T) {
	calls := append(calls1(1, []int64{0, 1}), calls1(-7, nil)...)
	for _, k := range invalidComplexes() {
		for _, c := range calls {
			if _, zero, code := c.run(k); code != impl.ErrInvalid || !zero {
				t.Errorf("%s of %v: code %d, zero value %v", c.name, k, code, zero)
			}
		}
	}
}

func TestInvalidComplexesComeBeforeLimits(t *testing.T) {
	bad := complexOn(6, 3)
	for _, pair := range [][2]impl.Complex{{bad, fullComplex(6)}, {fullComplex(6), bad}, {bad, bad}, {complexOn(7), complexOn(1)}} {
		if k, code := impl.JoinOf(pair[0], pair[1]); code != impl.ErrInvalid || !sameComplex(k, impl.Complex{}) {
			t.Errorf("JoinOf(%v) = %v, %d", pair, k, code)
		}
	}
	if k, code := impl.ConeOf(bad); code != impl.ErrInvalid || !sameComplex(k, impl.Complex{}) {
		t.Errorf("ConeOf(%v) = %v, %d", bad, k, code)
	}
}

func TestNumbersOutOfRange(t *testing.T) {
	k := parsed(t, "4:012,23")
	huge := []int64{math.MinInt64, math.MaxInt64, math.MinInt64 + 7, 1 << 32, 1<<32 + 1}
	for name, bad := range map[string][]int64{
		"FacesOf":    {-1, 6, -2, 7},
		"LinkOf":     {0, -1, 9, 10, 15, 16, 17},
		"StarOf":     {0, -1, 9, 10, 15, 16, 17},
		"TakeFace":   {0, -1, 9, 10, 15, 16, 17},
		"PartOn":     {-1, 16, -2, 17},
		"SkeletonOf": {-2, 6, -3, 7},
	} {
		for _, x := range append(bad, huge...) {
			checkRange(t, name, k, x)
		}
	}
	for _, x := range []int64{0, 1, 2, 32, 63, 64} {
		checkRange(t, "LinkOf", complexOn(6), x)
		checkRange(t, "StarOf", complexOn(6), x)
		checkRange(t, "TakeFace", complexOn(6), x)
	}
}

// checkRange checks that the function with a name returns ErrRange for a number.
func checkRange(t *testing.T, name string, k impl.Complex, x int64) {
	t.Helper()
	for _, c := range callsWithNumber1(x) {
		if c.name != name {
			continue
		}
		if _, zero, code := c.run(k); code != impl.ErrRange || !zero {
			t.Errorf("%s of %v and %d: code %d, zero value %v", name, k, x, code, zero)
		}
	}
}

func TestNumbersThatMeetTheirLimits(t *testing.T) {
	for _, k := range []impl.Complex{complexOn(1), complexOn(1, 1), complexOn(6), fullComplex(6)} {
		top := int64(1)<<k.Vertices - 1
		for _, c := range []struct {
			name string
			code func() int64
		}{
			{"FacesOf 0", func() int64 { _, code := impl.FacesOf(k, 0); return code }},
			{"FacesOf 5", func() int64 { _, code := impl.FacesOf(k, 5); return code }},
			{"PartOn 0", func() int64 { _, code := impl.PartOn(k, 0); return code }},
			{"PartOn all", func() int64 { _, code := impl.PartOn(k, top); return code }},
			{"SkeletonOf -1", func() int64 { _, code := impl.SkeletonOf(k, -1); return code }},
			{"SkeletonOf 5", func() int64 { _, code := impl.SkeletonOf(k, 5); return code }},
		} {
			if code := c.code(); code != impl.ErrNone {
				t.Errorf("%s of %v: code %d", c.name, k, code)
			}
		}
		if _, code := impl.PartOn(k, top+1); code != impl.ErrRange {
			t.Errorf("PartOn(%v, %d): code %d", k, top+1, code)
		}
	}
}

func TestListsThatAreNoRenumberings(t *testing.T) {
	k := parsed(t, "3:01,12")
	for _, p := range [][]int64{
		nil, {}, {0}, {0, 1}, {0, 1, 2, 3}, {0, 1, 1}, {0, 0, 0}, {1, 2, 3}, {-1, 0, 1}, {0, 1, 3}, {0, 1, math.MaxInt64},
		{math.MinInt64, 1, 2}, {0, 1, 2, 0}, {0, 1, 64},
	} {
		if got, code := impl.RenumberComplex(k, p); code != impl.ErrRange || !sameComplex(got, impl.Complex{}) {
			t.Errorf("RenumberComplex(%v, %v) = %v, %d", k, p, got, code)
		}
	}
	if got, code := impl.RenumberComplex(complexOn(1), []int64{0}); code != impl.ErrNone || !sameComplex(got, complexOn(1)) {
		t.Errorf("RenumberComplex = %v, %d", got, code)
	}
}

// TestArgumentsStayAndResultsAreNew gives faces and lists with spare capacity, spoils each result,
// and looks whether the arguments or a second result have changed.
func TestArgumentsStayAndResultsAreNew(t *testing.T) {
	spare := slices.Repeat([]int64{77}, 40)
	for _, base := range []impl.Complex{parsed(t, "2:01"), parsed(t, "2:0,1"), parsed(t, "2:0")} {
		faces := append(slices.Clone(base.Faces), spare...)
		list := append([]int64{0, 1}, spare...)
		k := complexOn(2, faces[:len(base.Faces)]...)
		for _, c := range calls1(1, list[:2]) {
			first, _, code := c.run(k)
			kept := slices.Clone(first)
			if code != impl.ErrNone {
				t.Errorf("%s of %v: code %d", c.name, k, code)
			}
			spoil(first)
			if second, _, _ := c.run(k); !slices.Equal(second, kept) {
				t.Errorf("%s of %v: first %v, then %v", c.name, k, kept, second)
			}
			if !slices.Equal(faces, append(slices.Clone(base.Faces), spare...)) || !slices.Equal(list, append([]int64{0, 1}, spare...)) {
				t.Fatalf("%s changed its arguments: %v, %v", c.name, faces, list)
			}
		}
	}
}

// spoil overwrites a list and the spare capacity behind it.
func spoil(list []int64) {
	list = list[:cap(list)]
	for i := range list {
		list[i] = -99
	}
}

func TestSetsOfComplexOfStay(t *testing.T) {
	sets := []int64{12, 7, 4, 77, 77, 77}
	k, code := impl.ComplexOf(4, sets[:3])
	spoil(k.Faces)
	if code != impl.ErrNone || !slices.Equal(sets, []int64{12, 7, 4, 77, 77, 77}) {
		t.Errorf("sets %v, code %d", sets, code)
	}
}

func TestNamedAndParsedComplexesAreNew(t *testing.T) {
	for _, build := range []func() (impl.Complex, int64){
		func() (impl.Complex, int64) { return impl.NamedComplex("circle") },
		func() (impl.Complex, int64) { return impl.ParseComplex("3:01,02,12") },
	} {
		first, _ := build()
		spoil(first.Faces)
		if second, code := build(); code != impl.ErrNone || !sameComplex(second, complexOn(3, 1, 2, 3, 4, 5, 6)) {
			t.Errorf("second %v, %d", second, code)
		}
	}
}
