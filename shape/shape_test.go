package shape_test

import (
	"math"
	"slices"
	"strings"
	"testing"

	"stirrup/api"
	"stirrup/shape"
)

const together = api.MaxLength / 4

// catalogue has what the chapter says of each code: how many dimensions it has, and, in its words, the legs.
var catalogue = []struct {
	code, dims int
	legs       string
}{
	{0, 1, "A along X"},
	{11, 2, "A along X, B along Y"},
	{21, 3, "A against Y, B along X, C along Y"},
	{26, 3, "A along X, B along Y, C along X"},
	{31, 3, "A along X, B along Y, C along Z"},
	{41, 5, "A along X, B along Y, C along X, D against Y, E along X"},
	{51, 3, "C against Y, A along X, B along Y, A against X, B against Y, C along X"},
	{98, 3, "A along Z, B against Y, C along X, B along Y, A along Z"},
}

// pathOf returns the lengths of the legs, and the path, of dimensions, as the words of a code say.
func pathOf(words string, dims []int) ([]int, []api.Point) {
	var legs []int
	at := api.Point{}
	path := []api.Point{at}
	for leg := range strings.SplitSeq(words, ", ") {
		word := strings.Fields(leg)
		length := dims[word[0][0]-'A']
		legs = append(legs, length)
		if word[1] == "against" {
			length = -length
		}
		*map[string]*int{"X": &at.X, "Y": &at.Y, "Z": &at.Z}[word[2]] += length
		path = append(path, at)
	}
	return legs, path
}

// boxOf returns the least box around points.
func boxOf(path []api.Point) api.Box {
	hull := api.Box{Lo: path[0], Hi: path[0]}
	for _, p := range path {
		hull.Lo = api.Point{X: min(hull.Lo.X, p.X), Y: min(hull.Lo.Y, p.Y), Z: min(hull.Lo.Z, p.Z)}
		hull.Hi = api.Point{X: max(hull.Hi.X, p.X), Y: max(hull.Hi.Y, p.Y), Z: max(hull.Hi.Z, p.Z)}
	}
	return hull
}

// codes returns the codes of the catalogue.
func codes() []int {
	var l []int
	for _, row := range catalogue {
		l = append(l, row.code)
	}
	return l
}

// notCodes returns numbers that are no codes: all others up to 300, and great ones, among them some whose lowest bits are
// those of a code.
func notCodes() []int {
	l := []int{
		math.MinInt, math.MaxInt, math.MinInt + 11, math.MaxInt - 52, 1<<32 + 11, 1 << 32, 1 << 62, 1<<16 + 51, -1 << 32,
		1<<8 + 98, 1<<62 + 41, -1 << 31,
	}
	for code := -300; code <= 300; code++ {
		if !slices.Contains(codes(), code) {
			l = append(l, code)
		}
	}
	return slices.DeleteFunc(l, func(code int) bool { return slices.Contains(codes(), code) })
}

// bar returns a valid bar with a code and dimensions, if these belong together.
func bar(code int, dims ...int) api.Bar {
	return api.Bar{Mark: "m1", Size: 12, Count: 7, Code: code, Dims: dims}
}

// dimsOf returns as many dimensions, each a different one.
func dimsOf(n int) []int { return []int{70, 110, 130, 170, 190}[:n] }

// P12.1
func TestCodes(t *testing.T) {
	if l := shape.Codes(); !slices.Equal(l, codes()) || !slices.IsSorted(l) {
		t.Errorf("the codes are %v", l)
	}
	// The codes have memory of their own: what is written into it shows nowhere.
	shape.Codes()[0] = 5
	_ = append(shape.Codes()[:3], 5)
	if l := shape.Codes(); !slices.Equal(l, codes()) {
		t.Errorf("after changes the codes are %v", l)
	}
	if n, e := shape.Dims(5); n != 0 || e != api.ErrKind {
		t.Errorf("after changes 5 has %d dimensions, %d", n, e)
	}
}

// P12.1: the names of package api stand for the codes of the chapter.
func TestNamesOfCodes(t *testing.T) {
	names := []int{api.Straight, api.Ell, api.You, api.Zed, api.Space, api.Hat, api.Link, api.Chair}
	if !slices.Equal(names, codes()) {
		t.Errorf("the named codes are %v", names)
	}
}

// P12.1
func TestDims(t *testing.T) {
	for _, row := range catalogue {
		if n, e := shape.Dims(row.code); n != row.dims || e != api.OK {
			t.Errorf("%d has %d dimensions, %d", row.code, n, e)
		}
	}
	for _, code := range notCodes() {
		if n, e := shape.Dims(code); n != 0 || e != api.ErrKind {
			t.Errorf("%d has %d dimensions, %d", code, n, e)
		}
	}
}

// checkBar compares a bar with what the chapter says of it; none has a shape, a path, or a box that is not valid.
func checkBar(t *testing.T, b api.Bar, valid bool) {
	t.Helper()
	if shape.Valid(b) != valid {
		t.Errorf("%+v is valid: %v", b, !valid)
	}
	want := api.OK
	if !valid {
		want = api.ErrArg
	}
	if legs, e := shape.Legs(b); e != want || len(legs) > 0 != valid {
		t.Errorf("%+v has the legs %v, %d", b, legs, e)
	}
	if path, e := shape.Path(b); e != want || len(path) > 0 != valid {
		t.Errorf("%+v has the path %v, %d", b, path, e)
	}
	if hull, e := shape.Box(b); e != want || hull != (api.Box{}) != valid {
		t.Errorf("%+v has the box %v, %d", b, hull, e)
	}
	good := bar(api.Straight, 100)
	for _, pair := range [][2]api.Bar{{b, good}, {good, b}, {b, b}} {
		is, e := shape.Same(pair[0], pair[1])
		if e != want || !valid && is {
			t.Errorf("%+v and %+v have the same shape: %v, %d", pair[0], pair[1], is, e)
		}
	}
}

// P12.1
func TestMarks(t *testing.T) {
	for mark, valid := range map[string]bool{
		"a": true, "m1": true, "Z_9": true, strings.Repeat("m", api.MaxName): true, strings.Repeat("m", api.MaxName+1): false,
		"": false, "1": false, "1a": false, "a ": false, " a": false, "a b": false, "a\n": false, "a\x00": false, "#": false,
		"a#": false, "a-b": false, "ä": false, "\xff": false, "a\n1": false, "=": false, ":=": false,
	} {
		b := bar(api.Ell, 200, 300)
		b.Mark = mark
		checkBar(t, b, valid)
	}
}

// P12.1
func TestSizes(t *testing.T) {
	sizes := []int{6, 8, 10, 12, 16, 20, 25, 32, 40}
	list := []int{math.MinInt, math.MaxInt, 1<<32 + 6, 1<<62 + 10, 1 << 20}
	for size := -50; size <= 50; size++ {
		list = append(list, size)
	}
	for _, size := range list {
		b := bar(api.Ell, 200, 300)
		b.Size = size
		checkBar(t, b, slices.Contains(sizes, size))
	}
}

// P12.1
func TestCounts(t *testing.T) {
	for count, valid := range map[int]bool{
		1: true, 2: true, 999: true, 1000: true, 1001: false, 0: false, -1: false, -1000: false, math.MinInt: false,
		math.MaxInt: false, 1<<32 + 1: false, 1 << 20: false,
	} {
		b := bar(api.Ell, 200, 300)
		b.Count = count
		checkBar(t, b, valid)
	}
}

// P12.1
func TestCodesOfBars(t *testing.T) {
	for _, row := range catalogue {
		for n := range 6 {
			checkBar(t, bar(row.code, dimsOf(n)...), n == row.dims)
		}
		checkBar(t, bar(row.code, make([]int, 1000)...), false)
		checkBar(t, bar(row.code, slices.Repeat([]int{1}, 6)...), false)
		checkBar(t, bar(row.code, slices.Repeat([]int{1}, 1000)...), false)
		checkBar(t, api.Bar{Code: row.code}, false)
	}
	for _, code := range notCodes() {
		for n := range 6 {
			checkBar(t, bar(code, dimsOf(n)...), false)
		}
	}
}

// P12.1: each dimension is at least 1, whichever it is, and the others are.
func TestLeastDims(t *testing.T) {
	for _, row := range catalogue {
		for i := range row.dims {
			for length, valid := range map[int]bool{
				1: true, 2: true, 0: false, -1: false, -2: false, -1000: false, math.MinInt: false, math.MinInt + 1: false,
			} {
				for _, other := range []int{1, 100} {
					dims := slices.Repeat([]int{other}, row.dims)
					dims[i] = length
					checkBar(t, bar(row.code, dims...), valid)
				}
			}
		}
	}
}

// P12.1: the dimensions are together at most a quarter of the greatest length, also where they fit none of the integers.
func TestMostDims(t *testing.T) {
	for _, row := range catalogue {
		for i := range row.dims {
			dims := dimsOf(row.dims)
			for off := -2; off <= 2; off++ {
				dims[i] = 0
				dims[i] = together + off - sum(dims)
				checkBar(t, bar(row.code, dims...), off <= 0)
			}
			for _, length := range []int{together, together + 1, api.MaxLength, 1 << 32, 1 << 62, math.MaxInt} {
				dims[i] = length
				checkBar(t, bar(row.code, dims...), row.dims == 1 && length == together)
			}
		}
	}
	for _, dims := range [][]int{
		{math.MaxInt, math.MaxInt, 3}, {1 << 62, 1 << 62, 1 << 62}, {math.MaxInt, math.MinInt, 2}, {1, math.MaxInt, 1},
		{math.MaxInt, -math.MaxInt, 1}, {together + 5, -4, 1}, {-4, together, 1},
	} {
		for _, code := range []int{api.You, api.Zed, api.Space, api.Link, api.Chair} {
			checkBar(t, bar(code, dims...), false)
		}
	}
	quarter := 1 << 62
	checkBar(t, bar(api.Hat, quarter, quarter, quarter, quarter, 5), false)
	checkBar(t, bar(api.Hat, math.MaxInt, math.MaxInt, 1, 1, 5), false)
	checkBar(t, bar(api.Hat, 1, 1, 1, 1, together-4), true)
	checkBar(t, bar(api.Hat, 1, 1, 1, 1, together-3), false)
}

func sum(l []int) int {
	whole := 0
	for _, n := range l {
		whole += n
	}
	return whole
}

// checkPath compares the legs, the path, and the box of a bar with what they have to be.
func checkPath(t *testing.T, b api.Bar, legs []int, path []api.Point, hull api.Box) {
	t.Helper()
	if l, e := shape.Legs(b); !slices.Equal(l, legs) || e != api.OK {
		t.Errorf("%+v has the legs %v, %d", b, l, e)
	}
	if l, e := shape.Path(b); !slices.Equal(l, path) || e != api.OK {
		t.Errorf("%+v has the path %v, %d", b, l, e)
	}
	if got, e := shape.Box(b); got != hull || e != api.OK {
		t.Errorf("%+v has the box %v, %d", b, got, e)
	}
}

// P12.2: paths that are reckoned by hand.
func TestPath(t *testing.T) {
	for _, c := range []struct {
		b    api.Bar
		legs []int
		path []api.Point
		hull api.Box
	}{
		{bar(21, 200, 500, 300), []int{200, 500, 300},
			[]api.Point{{}, {Y: -200}, {X: 500, Y: -200}, {X: 500, Y: 100}},
			api.Box{Lo: api.Point{Y: -200}, Hi: api.Point{X: 500, Y: 100}}},
		{bar(0, 1), []int{1}, []api.Point{{}, {X: 1}}, api.Box{Hi: api.Point{X: 1}}},
		{bar(0, together), []int{together}, []api.Point{{}, {X: together}}, api.Box{Hi: api.Point{X: together}}},
		{bar(11, 40, 30), []int{40, 30}, []api.Point{{}, {X: 40}, {X: 40, Y: 30}}, api.Box{Hi: api.Point{X: 40, Y: 30}}},
		{bar(26, 20, 30, 40), []int{20, 30, 40}, []api.Point{{}, {X: 20}, {X: 20, Y: 30}, {X: 60, Y: 30}},
			api.Box{Hi: api.Point{X: 60, Y: 30}}},
		{bar(31, 20, 30, 40), []int{20, 30, 40}, []api.Point{{}, {X: 20}, {X: 20, Y: 30}, {X: 20, Y: 30, Z: 40}},
			api.Box{Hi: api.Point{X: 20, Y: 30, Z: 40}}},
		{bar(41, 10, 20, 30, 50, 70), []int{10, 20, 30, 50, 70},
			[]api.Point{{}, {X: 10}, {X: 10, Y: 20}, {X: 40, Y: 20}, {X: 40, Y: -30}, {X: 110, Y: -30}},
			api.Box{Lo: api.Point{Y: -30}, Hi: api.Point{X: 110, Y: 20}}},
		// The hooks of a link lie beside its legs, or go on beyond them.
		{bar(51, 300, 200, 60), []int{60, 300, 200, 300, 200, 60},
			[]api.Point{{}, {Y: -60}, {X: 300, Y: -60}, {X: 300, Y: 140}, {Y: 140}, {Y: -60}, {X: 60, Y: -60}},
			api.Box{Lo: api.Point{Y: -60}, Hi: api.Point{X: 300, Y: 140}}},
		{bar(51, 3, 2, 6), []int{6, 3, 2, 3, 2, 6},
			[]api.Point{{}, {Y: -6}, {X: 3, Y: -6}, {X: 3, Y: -4}, {Y: -4}, {Y: -6}, {X: 6, Y: -6}},
			api.Box{Lo: api.Point{Y: -6}, Hi: api.Point{X: 6}}},
		{bar(98, 100, 250, 400), []int{100, 250, 400, 250, 100},
			[]api.Point{{}, {Z: 100}, {Y: -250, Z: 100}, {X: 400, Y: -250, Z: 100}, {X: 400, Z: 100}, {X: 400, Z: 200}},
			api.Box{Lo: api.Point{Y: -250}, Hi: api.Point{X: 400, Z: 200}}},
	} {
		checkPath(t, c.b, c.legs, c.path, c.hull)
	}
}

// P12.2: what is returned shares no memory with the bar, nor with other results, and the bar is not changed.
func TestMemory(t *testing.T) {
	for _, row := range catalogue {
		before := dimsOf(row.dims)
		b := bar(row.code, slices.Clone(before)...)
		wantLegs, wantPath := pathOf(row.legs, before)
		for range 2 {
			legs, _ := shape.Legs(b)
			path, _ := shape.Path(b)
			checkPath(t, b, wantLegs, wantPath, boxOf(wantPath))
			for i := range legs {
				legs[i] = -5
			}
			for i := range path {
				path[i] = api.Point{X: 1, Y: 1, Z: 1}
			}
			_, _ = append(legs[:0], 1, 2), append(path[:0], api.Point{X: 5})
			if !slices.Equal(b.Dims, before) {
				t.Errorf("%d has now the dimensions %v", row.code, b.Dims)
			}
		}
	}
}

// P12.3
func TestSame(t *testing.T) {
	for _, c := range []struct {
		a, b api.Bar
		same bool
	}{
		{bar(0, 100), bar(0, 100), true},
		{bar(0, 100), bar(0, 101), false},
		{bar(11, 100, 200), bar(11, 100, 200), true},
		{bar(11, 100, 200), bar(11, 200, 100), false},
		{bar(11, 100, 200), bar(11, 101, 200), false},
		{bar(11, 100, 200), bar(11, 100, 201), false},
		{bar(0, 100), bar(11, 100, 200), false},
		{bar(21, 100, 200, 300), bar(21, 100, 200, 300), true},
		{bar(21, 100, 200, 300), bar(26, 100, 200, 300), false},
		{bar(31, 100, 200, 300), bar(98, 100, 200, 300), false},
		{bar(51, 100, 200, 300), bar(51, 100, 200, 301), false},
		{bar(41, 1, 2, 3, 4, 5), bar(41, 1, 2, 3, 4, 5), true},
		{bar(41, 1, 2, 3, 4, 5), bar(41, 1, 2, 3, 4, 6), false},
	} {
		for _, pair := range [][2]api.Bar{{c.a, c.b}, {c.b, c.a}} {
			if is, e := shape.Same(pair[0], pair[1]); is != c.same || e != api.OK {
				t.Errorf("%+v and %+v have the same shape: %v, %d", pair[0], pair[1], is, e)
			}
		}
	}
}

// P12.3: the sizes matter, but neither the marks nor the counts do.
func TestSameOtherwise(t *testing.T) {
	for _, row := range catalogue {
		a := bar(row.code, dimsOf(row.dims)...)
		b := bar(row.code, dimsOf(row.dims)...)
		b.Mark, b.Count = "other", 1000
		if is, e := shape.Same(a, b); !is || e != api.OK {
			t.Errorf("%+v and %+v have the same shape: %v, %d", a, b, is, e)
		}
		b = a
		b.Size = 16
		if is, e := shape.Same(a, b); is || e != api.OK {
			t.Errorf("%+v and %+v have the same shape: %v, %d", a, b, is, e)
		}
	}
}
