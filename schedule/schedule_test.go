package schedule_test

import (
	"math"
	"slices"
	"strconv"
	"strings"
	"testing"

	"stirrup/api"
	"stirrup/schedule"
)

// bar returns a bar.
func bar(mark string, size, count, code int, dims ...int) api.Bar {
	return api.Bar{Mark: mark, Size: size, Count: count, Code: code, Dims: dims}
}

// some returns a schedule with bars of several sizes, and all codes.
func some() []api.Bar {
	return []api.Bar{
		bar("s", 10, 4, api.Straight, 1000),
		bar("l1", 12, 7, api.Ell, 300, 400),
		bar("u", 12, 1000, api.You, 200, 500, 300),
		bar("z", 16, 1, api.Zed, 200, 500, 300),
		bar("sp_2", 16, 12, api.Space, 200, 500, 300),
		bar("H", 20, 30, api.Hat, 300, 500, 700, 500, 300),
		bar("h", 8, 200, api.Link, 250, 350, 100),
		bar("a_mark_of_20_letters", 6, 9, api.Chair, 100, 250, 400),
		bar("most", 40, 2, api.Straight, api.MaxLength/4),
	}
}

// someText is the text of some.
const someText = "s 10 4 00 1000\n" +
	"l1 12 7 11 300 400\n" +
	"u 12 1000 21 200 500 300\n" +
	"z 16 1 26 200 500 300\n" +
	"sp_2 16 12 31 200 500 300\n" +
	"H 20 30 41 300 500 700 500 300\n" +
	"h 8 200 51 250 350 100\n" +
	"a_mark_of_20_letters 6 9 98 100 250 400\n" +
	"most 40 2 00 262144\n"

// many returns a schedule of n bars, with the marks m0, m1, and so on.
func many(n int) []api.Bar {
	var l []api.Bar
	for i := range n {
		l = append(l, bar("m"+strconv.Itoa(i), 10, api.MaxCount, api.Straight, 1000+i))
	}
	return l
}

// equal reports whether two schedules are equal.
func equal(a, b []api.Bar) bool {
	return slices.EqualFunc(a, b, func(x, y api.Bar) bool {
		return x.Mark == y.Mark && x.Size == y.Size && x.Count == y.Count && x.Code == y.Code && slices.Equal(x.Dims, y.Dims)
	})
}

// copied returns a schedule that shares no memory with l.
func copied(l []api.Bar) []api.Bar {
	l = slices.Clone(l)
	for i := range l {
		l[i].Dims = slices.Clone(l[i].Dims)
	}
	return l
}

// notBars returns bars that are not valid, each for one reason.
func notBars() []api.Bar {
	return []api.Bar{
		{},
		bar("", 10, 4, api.Straight, 1000),
		bar("1", 10, 4, api.Straight, 1000),
		bar("x y", 10, 4, api.Straight, 1000),
		bar("x\n", 10, 4, api.Straight, 1000),
		bar("é", 10, 4, api.Straight, 1000),
		bar("a_mark_of_21_letters_", 10, 4, api.Straight, 1000),
		bar("x", 11, 4, api.Straight, 1000),
		bar("x", 0, 4, api.Straight, 1000),
		bar("x", -10, 4, api.Straight, 1000),
		bar("x", 1<<32+10, 4, api.Straight, 1000),
		bar("x", 10, 0, api.Straight, 1000),
		bar("x", 10, -4, api.Straight, 1000),
		bar("x", 10, 1001, api.Straight, 1000),
		bar("x", 10, math.MaxInt, api.Straight, 1000),
		bar("x", 10, math.MinInt, api.Straight, 1000),
		bar("x", 10, 4, 1, 1000),
		bar("x", 10, 4, -11, 1000, 1000),
		bar("x", 10, 4, 99, 1000, 1000, 1000),
		bar("x", 10, 4, 111, 1000, 1000),
		bar("x", 10, 4, api.Straight),
		bar("x", 10, 4, api.Straight, 1000, 1000),
		bar("x", 10, 4, api.Ell, 1000),
		bar("x", 10, 4, api.Hat, 100, 100, 100, 100),
		bar("x", 10, 4, api.Straight, 0),
		bar("x", 10, 4, api.Straight, -1000),
		bar("x", 10, 4, api.Ell, 1000, 0),
		bar("x", 10, 4, api.Straight, api.MaxLength/4+1),
		bar("x", 10, 4, api.Ell, api.MaxLength/4, 1),
		bar("x", 10, 4, api.Ell, math.MaxInt, math.MaxInt),
	}
}

// notSchedules returns schedules that are not valid, each for one reason.
func notSchedules() [][]api.Bar {
	l := [][]api.Bar{
		many(api.MaxBars + 1),
		many(api.MaxList),
		append(some(), bar("s", 10, 4, api.Straight, 1000)),
		append(some(), bar("most", 12, 5, api.Ell, 200, 300)),
		{bar("x", 10, 4, api.Straight, 1000), bar("x", 10, 4, api.Straight, 1000)},
		append(many(api.MaxBars-1), bar("m0", 10, 4, api.Straight, 1000)),
	}
	for _, wrong := range notBars() {
		l = append(l, []api.Bar{wrong}, append(some(), wrong), append([]api.Bar{wrong}, some()...))
	}
	return l
}

// P14.1
func TestValid(t *testing.T) {
	for i, l := range [][]api.Bar{
		nil, {}, some(), many(1), many(2), many(api.MaxBars),
		{bar("x", 10, 4, api.Straight, 1000), bar("X", 10, 4, api.Straight, 1000), bar("x_", 10, 4, api.Straight, 1000)},
		{bar("x", 6, 1, api.Straight, 1), bar("y", 40, 1000, api.Straight, 1)},
	} {
		if !schedule.Valid(l) {
			t.Errorf("%d: %+v is not valid", i, l)
		}
	}
	for i, l := range notSchedules() {
		if schedule.Valid(l) {
			t.Errorf("%d: %+v is valid", i, l)
		}
	}
}

// P14.1, P14.2, P14.3, P14.4: of a schedule that is not valid nothing is told, and before anything else.
func TestNotValid(t *testing.T) {
	for _, l := range notSchedules() {
		for _, mark := range []string{"s", "x", "nowhere", ""} {
			if i, e := schedule.Find(l, mark); i != 0 || e != api.ErrArg {
				t.Errorf("%+v has %q at %d, %d", l, mark, i, e)
			}
		}
		if n, e := schedule.Total(l); n != 0 || e != api.ErrArg {
			t.Errorf("%+v has the total %d, %d", l, n, e)
		}
		if s, e := schedule.Text(l); s != "" || e != api.ErrArg {
			t.Errorf("%+v has the text %q, %d", l, s, e)
		}
		for _, size := range []int{10, 12, 11} {
			if order, e := schedule.Pieces(l, size); len(order) != 0 || e != api.ErrArg {
				t.Errorf("%+v has the pieces %v of the size %d, %d", l, order, size, e)
			}
		}
		// The other one has s with another shape, or too many bars for both, or is not valid either.
		for _, other := range [][]api.Bar{nil, {bar("s", 10, 1000, api.Straight, 999)}, some(), many(api.MaxBars), l} {
			for _, pair := range [][2][]api.Bar{{l, other}, {other, l}} {
				if merged, e := schedule.Merge(pair[0], pair[1]); len(merged) != 0 || e != api.ErrArg {
					t.Errorf("%+v and %+v merged are %+v, %d", pair[0], pair[1], merged, e)
				}
			}
		}
	}
}

// P14.1
func TestFind(t *testing.T) {
	for _, l := range [][]api.Bar{some(), many(api.MaxBars), many(1)} {
		for want, b := range l {
			if i, e := schedule.Find(l, b.Mark); i != want || e != api.OK {
				t.Errorf("%q is at %d, %d", b.Mark, i, e)
			}
		}
		for _, mark := range []string{"", "S", "ss", "l", "l1 ", " s", "m", "m60", "s\n", "mos", strings.Repeat("s", 1000), "\xff"} {
			if i, e := schedule.Find(l, mark); i != 0 || e != api.ErrName {
				t.Errorf("%q is at %d, %d", mark, i, e)
			}
		}
	}
	for _, l := range [][]api.Bar{nil, {}} {
		if i, e := schedule.Find(l, "s"); i != 0 || e != api.ErrName {
			t.Errorf("with no bars s is at %d, %d", i, e)
		}
	}
}

// P14.1
func TestTotal(t *testing.T) {
	for _, c := range []struct {
		l     []api.Bar
		total int
	}{
		{nil, 0}, {[]api.Bar{}, 0}, {some(), 1265}, {many(1), 1000}, {many(60), 60000},
		{[]api.Bar{bar("x", 10, 1, api.Straight, 1000)}, 1},
		{[]api.Bar{bar("x", 10, 3, api.Straight, 1000), bar("y", 12, 5, api.Link, 200, 300, 100)}, 8},
	} {
		if n, e := schedule.Total(c.l); n != c.total || e != api.OK {
			t.Errorf("%+v has the total %d, %d, not %d", c.l, n, e, c.total)
		}
	}
}

// P14.3: cutting lengths that are reckoned by hand.
func TestPieces(t *testing.T) {
	bent := []api.Bar{
		// 687124 micrometres, and straight ones that are cut as long, or a step longer, or shorter.
		bar("a", 12, 2, api.Ell, 300, 400), bar("b", 12, 3, api.Straight, 686), bar("c", 12, 4, api.Straight, 690),
		bar("d", 12, 1, api.Straight, 691), bar("e", 12, 5, api.Straight, 685), bar("f", 12, 6, api.Ell, 400, 300),
		// Of other sizes.
		bar("g", 10, 100, api.Straight, 690), bar("h", 16, 100, api.Ell, 300, 400),
	}
	for _, c := range []struct {
		l    []api.Bar
		size int
		want []api.Piece
	}{
		{nil, 10, nil},
		{[]api.Bar{}, 40, nil},
		{[]api.Bar{bar("a", 10, 4, api.Straight, 1000)}, 10, []api.Piece{{Length: 1000, Count: 4}}},
		{[]api.Bar{bar("a", 10, 4, api.Straight, 1000)}, 12, nil},
		{[]api.Bar{bar("a", 10, 4, api.Straight, 1000)}, 8, nil},
		{bent, 12, []api.Piece{{Length: 695, Count: 1}, {Length: 690, Count: 15}, {Length: 685, Count: 5}}},
		{bent, 10, []api.Piece{{Length: 690, Count: 100}}},
		{bent, 16, []api.Piece{{Length: 685, Count: 100}}},
		{bent, 20, nil},
		{some(), 12, []api.Piece{{Length: 975, Count: 1000}, {Length: 690, Count: 7}}},
		{some(), 16, []api.Piece{{Length: 970, Count: 13}}},
		{some(), 40, []api.Piece{{Length: 262145, Count: 2}}},
		// The least cutting length.
		{[]api.Bar{bar("a", 40, 4, api.Link, 1, 1, 1), bar("b", 40, 5, api.Straight, 5), bar("c", 40, 1, api.Straight, 6)}, 40,
			[]api.Piece{{Length: 10, Count: 1}, {Length: 5, Count: 9}}},
		// More digits do not come before fewer ones, as texts would.
		{[]api.Bar{bar("a", 6, 1, api.Straight, 90), bar("b", 6, 2, api.Straight, 1000), bar("c", 6, 3, api.Straight, 200)}, 6,
			[]api.Piece{{Length: 1000, Count: 2}, {Length: 200, Count: 3}, {Length: 90, Count: 1}}},
	} {
		if order, e := schedule.Pieces(c.l, c.size); !slices.Equal(order, c.want) || e != api.OK {
			t.Errorf("%+v has of the size %d the pieces %v, %d, not %v", c.l, c.size, order, e, c.want)
		}
	}
}

// P14.3: all bars of one length are a line with a Count that no bar could have.
func TestPiecesOfOneLength(t *testing.T) {
	l := many(api.MaxBars)
	for i := range l {
		l[i].Dims[0] = 2000 + i%5 - 4
	}
	if order, e := schedule.Pieces(l, 10); !slices.Equal(order, []api.Piece{{Length: 2000, Count: 60000}}) || e != api.OK {
		t.Errorf("the pieces are %v, %d", order, e)
	}
}

// P14.3
func TestNotSizes(t *testing.T) {
	sizes := []int{6, 8, 10, 12, 16, 20, 25, 32, 40}
	l := []int{math.MinInt, math.MaxInt, 1<<32 + 10, 1<<62 + 12, 1<<63 - 8, -1 << 32, 256 + 10, 65536 + 12}
	for size := -50; size <= 200; size++ {
		l = append(l, size)
	}
	for _, size := range l {
		want := api.ErrKind
		if slices.Contains(sizes, size) {
			want = api.OK
		}
		for _, bars := range [][]api.Bar{nil, many(3), some()} {
			if order, e := schedule.Pieces(bars, size); e != want || e != api.OK && len(order) != 0 {
				t.Errorf("of the size %d the pieces are %v, %d", size, order, e)
			}
		}
	}
}

// P14.4
func TestMerge(t *testing.T) {
	a := []api.Bar{bar("a", 10, 4, api.Straight, 1000), bar("b", 12, 5, api.Ell, 300, 400), bar("c", 8, 600, api.Link, 250, 350, 100)}
	for _, c := range []struct{ a, b, want []api.Bar }{
		{nil, nil, nil},
		{[]api.Bar{}, nil, nil},
		{a, nil, a},
		{nil, a, a},
		{a, []api.Bar{}, a},
		// The example of the chapter.
		{a[:1], []api.Bar{bar("a", 10, 2, api.Straight, 1000)}, []api.Bar{bar("a", 10, 6, api.Straight, 1000)}},
		// New marks come after the others, in their order, also where they are before those that both have.
		{a, []api.Bar{bar("z", 10, 1, api.Straight, 50), bar("b", 12, 7, api.Ell, 300, 400), bar("d", 16, 2, api.Straight, 70), bar("a", 10, 1, api.Straight, 1000)},
			[]api.Bar{bar("a", 10, 5, api.Straight, 1000), bar("b", 12, 12, api.Ell, 300, 400), a[2], bar("z", 10, 1, api.Straight, 50), bar("d", 16, 2, api.Straight, 70)}},
		// A mark in other letters is another one, and a bar of the same shape with another mark is too.
		{a[:1], []api.Bar{bar("A", 10, 2, api.Straight, 1000)}, []api.Bar{a[0], bar("A", 10, 2, api.Straight, 1000)}},
		// As many as may be.
		{a, []api.Bar{bar("c", 8, 400, api.Link, 250, 350, 100)}, []api.Bar{a[0], a[1], bar("c", 8, 1000, api.Link, 250, 350, 100)}},
		{many(30), many(60)[30:], many(60)},
		{many(60), nil, many(60)},
		{nil, many(60), many(60)},
	} {
		if merged, e := schedule.Merge(c.a, c.b); !equal(merged, c.want) || e != api.OK {
			t.Errorf("%+v and %+v merged are %+v, %d, not %+v", c.a, c.b, merged, e, c.want)
		}
	}
}

// P14.4: whatever comes first among the bars, a shape that differs comes before a Count, and this before the number of bars.
func TestMergeErrors(t *testing.T) {
	a := many(59)
	a[0], a[1] = bar("a", 12, 4, api.You, 300, 400, 500), bar("b", 10, 600, api.Straight, 1000)
	shape := bar("a", 12, 4, api.You, 300, 400, 501)
	count := bar("b", 10, 401, api.Straight, 1000)
	new1, new2 := bar("n1", 10, 1, api.Straight, 100), bar("n2", 10, 1, api.Straight, 100)
	for _, c := range []struct {
		b []api.Bar
		e api.Errno
	}{
		{[]api.Bar{shape}, api.ErrShape},
		{[]api.Bar{bar("a", 16, 4, api.You, 300, 400, 500)}, api.ErrShape},
		{[]api.Bar{bar("a", 12, 4, api.Zed, 300, 400, 500)}, api.ErrShape},
		{[]api.Bar{bar("a", 12, 4, api.You, 500, 400, 300)}, api.ErrShape},
		{[]api.Bar{bar("a", 12, 4, api.Straight, 300)}, api.ErrShape},
		{[]api.Bar{bar("a", 12, 1000, api.Straight, 300)}, api.ErrShape},
		{[]api.Bar{count}, api.ErrBig},
		{[]api.Bar{bar("b", 10, 1000, api.Straight, 1000)}, api.ErrBig},
		{[]api.Bar{new1, new2}, api.ErrFull},
		{many(60)[1:], api.ErrBig},
		{[]api.Bar{shape, count}, api.ErrShape},
		{[]api.Bar{count, shape}, api.ErrShape},
		{[]api.Bar{new1, new2, shape}, api.ErrShape},
		{[]api.Bar{shape, new1, new2}, api.ErrShape},
		{[]api.Bar{new1, new2, count}, api.ErrBig},
		{[]api.Bar{count, new1, new2}, api.ErrBig},
		{[]api.Bar{new1, count, new2, shape}, api.ErrShape},
		{[]api.Bar{new1, bar("b", 10, 400, api.Straight, 1000), bar("a", 12, 996, api.You, 300, 400, 500)}, api.OK},
	} {
		if merged, e := schedule.Merge(a, c.b); e != c.e || len(merged) > 0 != (e == api.OK) {
			t.Errorf("merged with %+v there are %+v, %d, not %d", c.b, merged, e, c.e)
		}
	}
}

// P14.4: two schedules of different marks fit together up to the limit.
func TestMergeUpToTheLimit(t *testing.T) {
	for n := range api.MaxBars + 1 {
		for k := range api.MaxBars + 1 {
			other := many(n + k)[n:]
			if len(other) != k {
				t.Fatal("not so many")
			}
			merged, e := schedule.Merge(many(n), other)
			if n+k <= api.MaxBars && (!equal(merged, many(n+k)) || e != api.OK) || n+k > api.MaxBars && (len(merged) != 0 || e != api.ErrFull) {
				t.Errorf("%d and %d bars merged are %d, %d", n, k, len(merged), e)
			}
		}
	}
}

// P14.4: what is merged shares no memory with what it was merged from, and this is not changed.
func TestMergeMemory(t *testing.T) {
	for _, pair := range [][2][]api.Bar{{some(), nil}, {nil, some()}, {some()[:4], some()[4:]}, {some()[:1], some()[:1]}, {some(), many(9)}} {
		// There is room behind the first one, which is not to be written to.
		a := append(make([]api.Bar, 0, 100), copied(pair[0])...)
		b := copied(pair[1])
		merged, e := schedule.Merge(a, b)
		if e != api.OK {
			t.Fatalf("not merged: %d", e)
		}
		for i := range merged {
			merged[i].Mark, merged[i].Count = "other", 77
			for k := range merged[i].Dims {
				merged[i].Dims[k] = -5
			}
			_ = append(merged[i].Dims, -6)
		}
		if !equal(a, pair[0]) || !equal(b, pair[1]) {
			t.Errorf("%+v and %+v were changed to %+v and %+v", pair[0], pair[1], a, b)
		}
		for _, after := range a[len(a):cap(a)] {
			if after.Mark != "" {
				t.Errorf("behind the bars is %+v", after)
			}
		}
	}
}

// P14.4: no two bars that are merged share their dimensions, also if those from which they come do.
func TestMergedBarsShareNothing(t *testing.T) {
	dims := []int{300, 400}
	a := []api.Bar{bar("a", 10, 1, api.Ell, dims...), bar("b", 10, 1, api.Ell, dims...)}
	b := []api.Bar{bar("c", 10, 1, api.Ell, dims...), bar("a", 10, 1, api.Ell, dims...)}
	merged, e := schedule.Merge(a, b)
	if len(merged) != 3 || e != api.OK {
		t.Fatalf("merged are %+v, %d", merged, e)
	}
	for i := range merged {
		merged[i].Dims[0] = i
		_ = append(merged[i].Dims, i)
	}
	for i := range merged {
		if !slices.Equal(merged[i].Dims, []int{i, 400}) {
			t.Errorf("bar %d has the dimensions %v", i, merged[i].Dims)
		}
	}
}
