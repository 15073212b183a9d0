package bend_test

import (
	"math"
	"slices"
	"strings"
	"testing"

	"stirrup/api"
	"stirrup/bend"
)

const together = api.MaxLength / 4

// table has what the chapter says of each size, reckoned by hand: the radius, the arc, the allowance, and the least legs
// at an end, and between two bends, that have no finding.
var table = []struct {
	size, radius   int
	arc, allowance api.Span
	end, between   int
}{
	// 500 R 333 / 106 and 500 R 355 / 113 are: 23561.32 and 23561.95
	{6, 15, api.Span{Lo: 23561, Hi: 23562}, api.Span{Lo: 6438, Hi: 6439}, 45, 30},
	// 31415.09 and 31415.93
	{8, 20, api.Span{Lo: 31415, Hi: 31416}, api.Span{Lo: 8584, Hi: 8585}, 60, 40},
	// 39268.87 and 39269.91
	{10, 25, api.Span{Lo: 39268, Hi: 39270}, api.Span{Lo: 10730, Hi: 10732}, 75, 50},
	// 47122.64 and 47123.89
	{12, 30, api.Span{Lo: 47122, Hi: 47124}, api.Span{Lo: 12876, Hi: 12878}, 90, 60},
	// 62830.19 and 62831.86
	{16, 40, api.Span{Lo: 62830, Hi: 62832}, api.Span{Lo: 17168, Hi: 17170}, 120, 80},
	// 125660.38 and 125663.72
	{20, 80, api.Span{Lo: 125660, Hi: 125664}, api.Span{Lo: 34336, Hi: 34340}, 180, 160},
	// 157075.47 and 157079.65
	{25, 100, api.Span{Lo: 157075, Hi: 157080}, api.Span{Lo: 42920, Hi: 42925}, 225, 200},
	// 201056.60 and 201061.95
	{32, 128, api.Span{Lo: 201056, Hi: 201062}, api.Span{Lo: 54938, Hi: 54944}, 288, 256},
	// 251320.75 and 251327.43
	{40, 160, api.Span{Lo: 251320, Hi: 251328}, api.Span{Lo: 68672, Hi: 68680}, 360, 320},
}

// catalogue has the legs of each code, by the names of their dimensions, and how many dimensions there are.
var catalogue = []struct {
	code, dims int
	legs       string
}{
	{api.Straight, 1, "A"},
	{api.Ell, 2, "AB"},
	{api.You, 3, "ABC"},
	{api.Zed, 3, "ABC"},
	{api.Space, 3, "ABC"},
	{api.Hat, 5, "ABCDE"},
	{api.Link, 3, "CABABC"},
	{api.Chair, 3, "ABCBA"},
}

// legsOf returns the legs of dimensions.
func legsOf(names string, dims []int) []int {
	var legs []int
	for _, name := range names {
		legs = append(legs, dims[name-'A'])
	}
	return legs
}

// bar returns a bar with the size 12.
func bar(code int, dims ...int) api.Bar {
	return api.Bar{Mark: "m1", Size: 12, Count: 1, Code: code, Dims: dims}
}

// sized returns a bar with another size.
func sized(size int, b api.Bar) api.Bar {
	b.Size = size
	return b
}

// counted returns a bar with another count.
func counted(count int, b api.Bar) api.Bar {
	b.Count = count
	return b
}

// P13.1
func TestArcs(t *testing.T) {
	for _, row := range table {
		if arc, e := bend.Arc(row.size); arc != row.arc || e != api.OK {
			t.Errorf("%d has the arc %v, %d", row.size, arc, e)
		}
		if allowance, e := bend.Allowance(row.size); allowance != row.allowance || e != api.OK {
			t.Errorf("%d has the allowance %v, %d", row.size, allowance, e)
		}
	}
}

// P13.1: other numbers are no sizes: all up to 200, and great ones, among them some whose lowest bits are those of a size.
func TestNotSizes(t *testing.T) {
	l := []int{
		math.MinInt, math.MaxInt, math.MinInt + 6, math.MaxInt - 5, 1<<32 + 6, 1<<32 + 16, 1<<62 + 10, 1<<63 - 40, -(1 << 32),
		-1 << 62, 1 << 31, 1 << 20, 1<<20 + 1, 256 + 6, 65536 + 40,
	}
	for d := -200; d <= 200; d++ {
		l = append(l, d)
	}
	for _, d := range l {
		want := api.ErrArg
		for _, row := range table {
			if row.size == d {
				want = api.OK
			}
		}
		arc, e := bend.Arc(d)
		allowance, f := bend.Allowance(d)
		if e != want || f != want || want != api.OK && (arc != api.Span{} || allowance != api.Span{}) {
			t.Errorf("%d has the arc %v, %d, and the allowance %v, %d", d, arc, e, allowance, f)
		}
	}
}

// P13.2
func TestBends(t *testing.T) {
	for _, c := range []struct {
		b     api.Bar
		bends int
	}{
		{bar(api.Straight, 1000), 0}, {bar(api.Ell, 300, 400), 1}, {bar(api.You, 200, 500, 300), 2},
		{bar(api.Zed, 200, 500, 300), 2}, {bar(api.Space, 200, 500, 300), 2}, {bar(api.Hat, 100, 200, 300, 200, 100), 4},
		{bar(api.Link, 300, 200, 100), 5}, {bar(api.Chair, 100, 250, 400), 4},
		{bar(api.Straight, 1), 0}, {bar(api.Link, 1, 1, 1), 5},
	} {
		for _, row := range table {
			if n, e := bend.Bends(sized(row.size, c.b)); n != c.bends || e != api.OK {
				t.Errorf("%+v of the size %d has %d bends, %d", c.b, row.size, n, e)
			}
		}
	}
}

// P13.2: lengths and masses that are reckoned by hand.
func TestLengths(t *testing.T) {
	for _, c := range []struct {
		b         api.Bar
		developed api.Span
		cut, mass int
	}{
		// 700000 less 12876 to 12878; the size 12 has 0.88776 for each 1.
		{bar(api.Ell, 300, 400), api.Span{Lo: 687122, Hi: 687124}, 690, 613},
		{counted(7, bar(api.Ell, 300, 400)), api.Span{Lo: 687122, Hi: 687124}, 690, 7 * 613},
		{bar(api.You, 200, 500, 300), api.Span{Lo: 974244, Hi: 974248}, 975, 866},
		{bar(api.Zed, 500, 200, 300), api.Span{Lo: 974244, Hi: 974248}, 975, 866},
		{bar(api.Space, 200, 300, 500), api.Span{Lo: 974244, Hi: 974248}, 975, 866},
		{bar(api.Hat, 100, 200, 300, 250, 150), api.Span{Lo: 948488, Hi: 948496}, 950, 843},
		{bar(api.Link, 300, 200, 100), api.Span{Lo: 1135610, Hi: 1135620}, 1140, 1012},
		{bar(api.Chair, 100, 250, 400), api.Span{Lo: 1048488, Hi: 1048496}, 1050, 932},
		// The size 40 has 9.864 for each 1; of a corner 68672 to 68680 are saved.
		{sized(40, bar(api.Ell, 1000, 2000)), api.Span{Lo: 2931320, Hi: 2931328}, 2935, 28951},
		{sized(6, bar(api.Ell, 50, 57)), api.Span{Lo: 100561, Hi: 100562}, 105, 23},
	} {
		checkLengths(t, c.b, c.developed, c.cut, c.mass)
	}
}

// checkLengths compares the lengths and the mass of a bar with what they have to be.
func checkLengths(t *testing.T, b api.Bar, developed api.Span, cut, mass int) {
	t.Helper()
	if l, e := bend.Developed(b); l != developed || e != api.OK {
		t.Errorf("%+v has the developed length %v, %d", b, l, e)
	}
	if l, e := bend.Cut(b); l != cut || e != api.OK {
		t.Errorf("%+v has the cutting length %d, %d", b, l, e)
	}
	if m, e := bend.Mass(b); m != mass || e != api.OK {
		t.Errorf("%+v has the mass %d, %d", b, m, e)
	}
}

// P13.2: cutting lengths are rounded up to multiples of 5, and those of straight bars that are such are as they are.
func TestCuttingStep(t *testing.T) {
	for length, cut := range map[int]int{
		1: 5, 2: 5, 4: 5, 5: 5, 6: 10, 9: 10, 10: 10, 11: 15, 999: 1000, 1000: 1000, 1001: 1005, 1003: 1005, 1005: 1005,
		together - 5: together - 4, together - 4: together - 4, together - 3: together + 1, together: together + 1,
	} {
		b := bar(api.Straight, length)
		if l, e := bend.Cut(b); l != cut || e != api.OK {
			t.Errorf("%+v has the cutting length %d, %d", b, l, e)
		}
	}
	// With a corner of the size 16 just 17168 to 17170 are saved, so that 1017 are cut from 1000, and 1018 from 1005.
	for length, cut := range map[int]int{1017: 1000, 1018: 1005, 1022: 1005, 1023: 1010, 1012: 995, 1013: 1000} {
		b := sized(16, bar(api.Ell, 500, length-500))
		if l, e := bend.Cut(b); l != cut || e != api.OK {
			t.Errorf("%+v has the cutting length %d, %d", b, l, e)
		}
	}
}

// P13.2: legs that are shorter than what their corners save have a negative length, and are cut from 5.
func TestNegativeLengths(t *testing.T) {
	for _, c := range []struct {
		b         api.Bar
		developed api.Span
		cut, mass int
	}{
		{sized(40, bar(api.Ell, 1, 1)), api.Span{Lo: -66680, Hi: -66672}, 5, 49},
		{sized(40, bar(api.Link, 1, 1, 1)), api.Span{Lo: -337400, Hi: -337360}, 5, 49},
		{counted(1000, sized(40, bar(api.Link, 1, 1, 1))), api.Span{Lo: -337400, Hi: -337360}, 5, 49000},
		{sized(6, bar(api.Ell, 1, 1)), api.Span{Lo: -4439, Hi: -4438}, 5, 1},
		{sized(6, bar(api.Ell, 3, 3)), api.Span{Lo: -439, Hi: -438}, 5, 1},
		{sized(6, bar(api.Ell, 3, 4)), api.Span{Lo: 561, Hi: 562}, 5, 1},
		{sized(6, bar(api.Ell, 4, 7)), api.Span{Lo: 4561, Hi: 4562}, 5, 1},
		{sized(6, bar(api.Ell, 5, 7)), api.Span{Lo: 5561, Hi: 5562}, 10, 2},
		{sized(25, bar(api.Ell, 20, 20)), api.Span{Lo: -2925, Hi: -2920}, 5, 19},
	} {
		checkLengths(t, c.b, c.developed, c.cut, c.mass)
	}
}

// P13.2: bars as great as they may be.
func TestGreatest(t *testing.T) {
	checkLengths(t, counted(1000, sized(40, bar(api.Straight, together))),
		api.Span{Lo: 1000 * together, Hi: 1000 * together}, together+1, 1000*2585798)
	checkLengths(t, counted(1000, sized(40, bar(api.Link, together-2, 1, 1))),
		api.Span{Lo: 524288000 - 343400, Hi: 524288000 - 343360}, 523945, 1000*5168193)
	checkLengths(t, counted(1000, sized(6, bar(api.Link, 1, together-2, 1))),
		api.Span{Lo: 524288000 - 32195, Hi: 524288000 - 32190}, 524260, 1000*116354)
	checkLengths(t, sized(6, bar(api.Hat, 1, 1, 1, 1, together-4)),
		api.Span{Lo: 262144000 - 25756, Hi: 262144000 - 25752}, 262120, 58175)
}

// kindsOf returns the kinds of the findings of a bar, all of which have to have its mark.
func kindsOf(t *testing.T, b api.Bar) []int {
	t.Helper()
	l, e := bend.Check(b)
	if e != api.OK {
		t.Errorf("%+v has no findings, %d", b, e)
	}
	var kinds []int
	for _, found := range l {
		if found.Name != b.Mark {
			t.Errorf("%+v has the finding %v", b, found)
		}
		kinds = append(kinds, found.Kind)
	}
	return kinds
}

// P13.3
func TestCheck(t *testing.T) {
	for _, c := range []struct {
		b     api.Bar
		kinds []int
	}{
		{bar(api.Straight, 1), nil}, {bar(api.Straight, 89), nil}, {bar(api.Straight, together), nil},
		{bar(api.Ell, 90, 90), nil}, {bar(api.Ell, 89, 90), []int{1}}, {bar(api.Ell, 90, 89), []int{1}},
		{bar(api.Ell, 1, 1), []int{1, 1}},
		{bar(api.You, 90, 60, 90), nil}, {bar(api.You, 89, 60, 90), []int{1}}, {bar(api.You, 90, 59, 90), []int{2}},
		{bar(api.You, 90, 60, 89), []int{1}}, {bar(api.You, 89, 59, 90), []int{1, 2}}, {bar(api.You, 90, 59, 89), []int{2, 1}},
		{bar(api.You, 89, 60, 89), []int{1, 1}}, {bar(api.You, 1, 1, 1), []int{1, 2, 1}},
		{bar(api.Zed, 89, 59, 89), []int{1, 2, 1}}, {bar(api.Space, 90, 59, 89), []int{2, 1}},
		{bar(api.Hat, 90, 60, 60, 60, 90), nil}, {bar(api.Hat, 89, 59, 60, 59, 90), []int{1, 2, 2}},
		{bar(api.Hat, 90, 60, 59, 60, 89), []int{2, 1}}, {bar(api.Hat, 1, 1, 1, 1, 1), []int{1, 2, 2, 2, 1}},
		{bar(api.Link, 60, 60, 90), nil}, {bar(api.Link, 60, 60, 89), []int{1, 1}}, {bar(api.Link, 59, 60, 90), []int{2, 2}},
		{bar(api.Link, 60, 59, 89), []int{1, 2, 2, 1}}, {bar(api.Link, 59, 59, 90), []int{2, 2, 2, 2}},
		{bar(api.Chair, 90, 60, 60), nil}, {bar(api.Chair, 89, 60, 60), []int{1, 1}},
		{bar(api.Chair, 89, 60, 59), []int{1, 2, 1}}, {bar(api.Chair, 90, 59, 60), []int{2, 2}},
		// A straight leg of 1000 between bends is as good as any.
		{bar(api.You, 1000, 1000, 1000), nil}, {bar(api.You, 1, 1000, 1), []int{1, 1}},
	} {
		if kinds := kindsOf(t, c.b); !slices.Equal(kinds, c.kinds) {
			t.Errorf("%+v has the findings %v", c.b, kinds)
		}
	}
}

// P13.3: for each size, the least legs without a finding.
func TestLeastLegs(t *testing.T) {
	for _, row := range table {
		for _, c := range []struct {
			dims  []int
			kinds []int
		}{
			{[]int{row.end, row.between, row.end}, nil},
			{[]int{row.end - 1, row.between, row.end}, []int{1}},
			{[]int{row.end, row.between - 1, row.end}, []int{2}},
			{[]int{row.end, row.between, row.end - 1}, []int{1}},
			{[]int{row.end - 1, row.between - 1, row.end - 1}, []int{1, 2, 1}},
		} {
			b := sized(row.size, bar(api.You, c.dims...))
			if kinds := kindsOf(t, b); !slices.Equal(kinds, c.kinds) {
				t.Errorf("%+v has the findings %v", b, kinds)
			}
		}
	}
}

// P13.3: findings have the mark of their bar.
func TestNamesOfFindings(t *testing.T) {
	for _, mark := range []string{"a", "Z_9", strings.Repeat("m", api.MaxName)} {
		b := bar(api.You, 1, 1, 1)
		b.Mark = mark
		l, e := bend.Check(b)
		want := []api.Finding{{Kind: 1, Name: mark}, {Kind: 2, Name: mark}, {Kind: 1, Name: mark}}
		if !slices.Equal(l, want) || e != api.OK {
			t.Errorf("%+v has the findings %v, %d", b, l, e)
		}
	}
}

// P13.3: what is done to findings changes no others.
func TestMemory(t *testing.T) {
	b := bar(api.Link, 1, 2, 3)
	first, _ := bend.Check(b)
	second, _ := bend.Check(b)
	clear(first[:cap(first)])
	third, _ := bend.Check(b)
	if len(second) != 6 || slices.Contains(second, api.Finding{}) || !slices.Equal(second, third) {
		t.Errorf("%+v has the findings %v, and then %v", b, second, third)
	}
	if !slices.Equal(b.Dims, []int{1, 2, 3}) {
		t.Errorf("the dimensions are now %v", b.Dims)
	}
}

// refused checks that all functions refuse a bar, with nothing besides.
func refused(t *testing.T, b api.Bar) {
	t.Helper()
	if n, e := bend.Bends(b); n != 0 || e != api.ErrArg {
		t.Errorf("%+v has %d bends, %d", b, n, e)
	}
	if l, e := bend.Developed(b); l != (api.Span{}) || e != api.ErrArg {
		t.Errorf("%+v has the developed length %v, %d", b, l, e)
	}
	if l, e := bend.Cut(b); l != 0 || e != api.ErrArg {
		t.Errorf("%+v has the cutting length %d, %d", b, l, e)
	}
	if m, e := bend.Mass(b); m != 0 || e != api.ErrArg {
		t.Errorf("%+v has the mass %d, %d", b, m, e)
	}
	if l, e := bend.Check(b); len(l) != 0 || e != api.ErrArg {
		t.Errorf("%+v has the findings %v, %d", b, l, e)
	}
}

// P13.2, P13.3: bars that are not valid, each for one reason.
func TestNotValid(t *testing.T) {
	for _, good := range []api.Bar{bar(api.Straight, 10), bar(api.You, 10, 20, 30), bar(api.Link, 1000, 500, 200)} {
		for _, change := range []func(b *api.Bar){
			func(b *api.Bar) { b.Mark = "" }, func(b *api.Bar) { b.Mark = "1a" }, func(b *api.Bar) { b.Mark = "a b" },
			func(b *api.Bar) { b.Mark = strings.Repeat("m", api.MaxName+1) }, func(b *api.Bar) { b.Mark = "\xff" },
			func(b *api.Bar) { b.Size = 0 }, func(b *api.Bar) { b.Size = 13 }, func(b *api.Bar) { b.Size = -12 },
			func(b *api.Bar) { b.Size = math.MaxInt }, func(b *api.Bar) { b.Size = 1<<32 + 12 },
			func(b *api.Bar) { b.Count = 0 }, func(b *api.Bar) { b.Count = -1 }, func(b *api.Bar) { b.Count = api.MaxCount + 1 },
			func(b *api.Bar) { b.Count = math.MinInt }, func(b *api.Bar) { b.Count = math.MaxInt },
			func(b *api.Bar) { b.Code = 1 }, func(b *api.Bar) { b.Code = -1 }, func(b *api.Bar) { b.Code = api.Ell },
			func(b *api.Bar) { b.Code = api.Hat }, func(b *api.Bar) { b.Code = math.MinInt },
			func(b *api.Bar) { b.Dims = nil }, func(b *api.Bar) { b.Dims = make([]int, len(b.Dims)) },
			func(b *api.Bar) { b.Dims = append(slices.Clone(b.Dims), 10) },
			func(b *api.Bar) { b.Dims = slices.Repeat([]int{1}, 1000) },
			func(b *api.Bar) { b.Dims = append(slices.Clone(b.Dims[1:]), 0) },
			func(b *api.Bar) { b.Dims = append(slices.Clone(b.Dims[1:]), -5) },
			func(b *api.Bar) { b.Dims = append(slices.Clone(b.Dims[1:]), together+1) },
			func(b *api.Bar) { b.Dims = append(slices.Clone(b.Dims[1:]), math.MinInt) },
			func(b *api.Bar) { b.Dims = slices.Repeat([]int{math.MaxInt}, len(b.Dims)) },
		} {
			b := good
			change(&b)
			refused(t, b)
		}
	}
	refused(t, api.Bar{})
	refused(t, bar(api.Ell, together, 1))
	refused(t, bar(api.Ell, 10))
}
