package laid_test

import (
	"math"
	"slices"
	"strconv"
	"strings"
	"testing"

	"stirrup/api"
	"stirrup/laid"
)

const limit = api.MaxLength

func at(x, y, z int) api.Point { return api.Point{X: x, Y: y, Z: z} }

func turn(x, y int) api.Turn { return api.Turn{X: x, Y: y} }

// from makes a box of its lowest and its highest coordinates.
func from(a, b, c, d, e, f int) api.Box { return api.Box{Lo: at(a, b, c), Hi: at(d, e, f)} }

func bar(mark string, count, code int, dims ...int) api.Bar {
	return api.Bar{Mark: mark, Size: 12, Count: count, Code: code, Dims: dims}
}

// run returns a run of one bar, which is not turned.
func run(mark string, place api.Point) api.Run {
	return api.Run{Mark: mark, Turn: turn(1, 2), At: place, Count: 1}
}

// row returns a run of several bars, which are not turned.
func row(mark string, count int, place, step api.Point) api.Run {
	return api.Run{Mark: mark, Turn: turn(1, 2), At: place, Step: step, Count: count}
}

// cage returns a schedule: straight bars a, bars b with two legs, and links c.
func cage() []api.Bar {
	return []api.Bar{bar("a", 4, api.Straight, 100), bar("b", 2, api.Ell, 20, 30), bar("c", 3, api.Link, 40, 60, 10)}
}

// copied returns bars that share no memory with others.
func copied(l []api.Bar) []api.Bar {
	l = slices.Clone(l)
	for i := range l {
		l[i].Dims = slices.Clone(l[i].Dims)
	}
	return l
}

func equal(a, b []api.Bar) bool {
	return slices.EqualFunc(a, b, func(x, y api.Bar) bool {
		return x.Mark == y.Mark && x.Size == y.Size && x.Count == y.Count && x.Code == y.Code && slices.Equal(x.Dims, y.Dims)
	})
}

// names returns marks, of which each has a bar.
func names(n int) []string {
	var l []string
	for i := range n {
		l = append(l, "m"+strconv.Itoa(i))
	}
	return l
}

// straight returns a schedule with a straight bar of each mark.
func straight(marks ...string) []api.Bar {
	var l []api.Bar
	for _, mark := range marks {
		l = append(l, bar(mark, 1, api.Straight, 100))
	}
	return l
}

// accepts checks what all functions with a schedule and runs say of ones that are valid, or not.
func accepts(t *testing.T, name string, bars []api.Bar, runs []api.Run, valid bool) {
	t.Helper()
	want, n := api.ErrArg, 0
	if valid {
		want = api.OK
		for _, r := range runs {
			n += r.Count
		}
	}
	if laid.Valid(bars, runs) != valid {
		t.Errorf("%s: valid: %t", name, !valid)
	}
	if count, e := laid.Count(bars, runs); count != n || e != want {
		t.Errorf("%s: %d bars, %d", name, count, e)
	}
	if l, e := laid.Balance(bars, runs); e != want || !valid && len(l) != 0 {
		t.Errorf("%s: the balance %v, %d", name, l, e)
	}
	if valid {
		refuses(t, name, bars, runs, -1, api.ErrRange)
		refuses(t, name, bars, runs, n, api.ErrRange)
		return
	}
	for _, i := range []int{0, 1, -1, 5000, math.MinInt, math.MaxInt} {
		refuses(t, name, bars, runs, i, api.ErrArg)
	}
}

// refuses checks that there is an error instead of the laid bar with a number.
func refuses(t *testing.T, name string, bars []api.Bar, runs []api.Run, i int, want api.Errno) {
	t.Helper()
	if mark, e := laid.Mark(bars, runs, i); mark != "" || e != want {
		t.Errorf("%s: the mark of %d is %q, %d", name, i, mark, e)
	}
	if l, e := laid.Legs(bars, runs, i); len(l) != 0 || e != want {
		t.Errorf("%s: the legs of %d are %v, %d", name, i, l, e)
	}
	if b, e := laid.Hull(bars, runs, i); b != (api.Box{}) || e != want {
		t.Errorf("%s: the hull of %d is %v, %d", name, i, b, e)
	}
}

// P16.1: without a valid schedule no runs are valid.
func TestSchedules(t *testing.T) {
	runs := []api.Run{run("a", at(0, 0, 0))}
	marks := names(api.MaxBars + 1)
	for _, c := range []struct {
		name  string
		bars  []api.Bar
		runs  []api.Run
		valid bool
	}{
		{"nothing", nil, nil, true},
		{"no runs", cage(), nil, true},
		{"no runs, but a list", cage(), []api.Run{}, true},
		{"no bars", nil, runs, false},
		{"one bar", straight("a"), runs, true},
		{"another bar", straight("b"), runs, false},
		{"the last bar", append(straight(marks[:59]...), straight("a")...), runs, true},
		{"one bar too many", append(straight(marks[:60]...), straight("a")...), runs, false},
		{"one bar too many, none laid", straight(marks...), nil, false},
		{"a mark twice", straight("a", "b", "b"), runs, false},
		{"a mark twice, none laid", straight("a", "b", "b"), nil, false},
		{"no name", straight("a", ""), runs, false},
		{"no name laid", straight(""), []api.Run{run("", at(0, 0, 0))}, false},
		{"a wrong size", []api.Bar{{Mark: "a", Size: 11, Count: 1, Dims: []int{100}}}, runs, false},
		{"a wrong count", []api.Bar{bar("a", 0, api.Straight, 100)}, runs, false},
		{"a wrong code", []api.Bar{bar("a", 1, 12, 100)}, runs, false},
		{"too few dimensions", []api.Bar{bar("a", 1, api.Ell, 100)}, runs, false},
		{"a dimension of nothing", []api.Bar{bar("a", 1, api.Straight, 0)}, runs, false},
		{"long", []api.Bar{bar("a", 1, api.Straight, limit/4)}, runs, true},
		{"too long", []api.Bar{bar("a", 1, api.Straight, limit/4+1)}, runs, false},
		{"a wrong one beside it", append(straight("a"), bar("b", 1, 12, 100)), runs, false},
	} {
		accepts(t, c.name, c.bars, c.runs, c.valid)
	}
}

// P16.1: the conditions of a run without its points, each by itself, wherever the run stands.
func TestRuns(t *testing.T) {
	for _, c := range []struct {
		name   string
		change func(r *api.Run)
		valid  bool
	}{
		{"no change", func(r *api.Run) {}, true},
		{"the mark b", func(r *api.Run) { r.Mark = "b" }, true},
		{"no mark", func(r *api.Run) { r.Mark = "" }, false},
		{"a mark that is not there", func(r *api.Run) { r.Mark = "d" }, false},
		{"a mark in capitals", func(r *api.Run) { r.Mark = "A" }, false},
		{"a mark that begins so", func(r *api.Run) { r.Mark = "aa" }, false},
		{"no turn", func(r *api.Run) { r.Turn = turn(0, 0) }, false},
		{"an axis that is none", func(r *api.Run) { r.Turn = turn(1, 4) }, false},
		{"an axis twice", func(r *api.Run) { r.Turn = turn(2, -2) }, false},
		{"another turn", func(r *api.Run) { r.Turn = turn(-3, 1) }, true},
		{"a count of none", func(r *api.Run) { r.Count = 0 }, false},
		{"a negative count", func(r *api.Run) { r.Count = -1 }, false},
		{"the least count", func(r *api.Run) { r.Count = math.MinInt }, false},
		{"the greatest count", func(r *api.Run) { r.Count = math.MaxInt }, false},
		{"one", func(r *api.Run) { r.Count = 1 }, true},
		{"the most", func(r *api.Run) { r.Count = api.MaxCount }, true},
		{"one too many", func(r *api.Run) { r.Count = api.MaxCount + 1 }, false},
		{"no step of two", func(r *api.Run) { r.Count, r.Step = 2, at(0, 0, 0) }, false},
		{"no step of many", func(r *api.Run) { r.Count, r.Step = 1000, at(0, 0, 0) }, false},
		{"no step of one", func(r *api.Run) { r.Count, r.Step = 1, at(0, 0, 0) }, true},
		{"a step along X", func(r *api.Run) { r.Step = at(1, 0, 0) }, true},
		{"a step against Y", func(r *api.Run) { r.Step = at(0, -1, 0) }, true},
		{"a step along Z", func(r *api.Run) { r.Step = at(0, 0, 1) }, true},
		{"a step of 0 together", func(r *api.Run) { r.Step = at(1, -1, 0) }, true},
		{"any step of one", func(r *api.Run) { r.Count, r.Step = 1, at(limit+1, 3*limit, math.MinInt) }, true},
		{"the greatest step of one", func(r *api.Run) { r.Count, r.Step = 1, at(math.MaxInt, math.MaxInt, math.MaxInt) }, true},
	} {
		for place := range 3 {
			runs := []api.Run{run("a", at(0, 0, 0)), run("a", at(0, 0, 0)), run("a", at(0, 0, 0))}
			runs[place] = row("a", 3, at(1, 2, 3), at(0, 10, 0))
			c.change(&runs[place])
			accepts(t, c.name+" in "+strconv.Itoa(place), cage(), runs, c.valid)
		}
	}
}

// P16.1: not more than MaxRuns runs, and MaxLaid bars.
func TestHowMany(t *testing.T) {
	one := run("a", at(0, 0, 0))
	of := func(n int) api.Run { return row("a", n, at(0, 0, 0), at(0, 0, 5)) }
	for _, c := range []struct {
		name  string
		runs  []api.Run
		valid bool
	}{
		{"60 runs", slices.Repeat([]api.Run{one}, 60), true},
		{"61 runs", slices.Repeat([]api.Run{one}, 61), false},
		{"100 runs", slices.Repeat([]api.Run{one}, 100), false},
		{"2000 bars", []api.Run{of(1000), of(1000)}, true},
		{"2001 bars", []api.Run{of(1000), of(1000), one}, false},
		{"2001 bars the other way", []api.Run{one, of(1000), of(1000)}, false},
		{"2001 bars of two marks", []api.Run{of(1000), run("b", at(0, 0, 0)), of(1000)}, false},
		{"1999 bars", []api.Run{of(1000), of(999)}, true},
		{"40 times 50", slices.Repeat([]api.Run{of(50)}, 40), true},
		{"40 times 50 and one", append(slices.Repeat([]api.Run{of(50)}, 40), one), false},
		{"60 times 1000", slices.Repeat([]api.Run{of(1000)}, 60), false},
		{"60 times 33, and 20", append(slices.Repeat([]api.Run{of(33)}, 59), of(53)), true},
		{"60 times 33, and 21", append(slices.Repeat([]api.Run{of(33)}, 59), of(54)), false},
	} {
		accepts(t, c.name, cage(), c.runs, c.valid)
	}
}

// P16.1: all points are within the limits, those of the first bars, and those of the last ones. The bars a reach from 0 to
// 100 along X.
func TestLimits(t *testing.T) {
	for _, c := range []struct {
		name  string
		run   api.Run
		valid bool
	}{
		{"the greatest X", run("a", at(limit-100, 0, 0)), true},
		{"an end that is too far", run("a", at(limit-99, 0, 0)), false},
		{"the least X", run("a", at(-limit, 0, 0)), true},
		{"a beginning that is too far", run("a", at(-limit-1, 0, 0)), false},
		{"corners", run("a", at(-limit, limit, -limit)), true},
		{"other corners", run("a", at(limit-100, -limit, limit)), true},
		{"Y too great", run("a", at(0, limit+1, 0)), false},
		{"Y too small", run("a", at(0, -limit-1, 0)), false},
		{"Z too great", run("a", at(0, 0, limit+1)), false},
		{"Z too small", run("a", at(0, 0, -limit-1)), false},
		{"the last bar", row("a", 3, at(-limit, 0, 0), at(limit-50, 0, 0)), true},
		{"the last bar too far", row("a", 3, at(-limit, 0, 0), at(limit-49, 0, 0)), false},
		{"down", row("a", 5, at(0, limit, 0), at(0, -limit/2, 0)), true},
		{"down too far", row("a", 5, at(0, limit-1, 0), at(0, -limit/2, 0)), false},
		{"the whole range", row("a", 2, at(0, 0, -limit), at(0, 0, 2*limit)), true},
		{"the whole range down", row("a", 2, at(0, 0, limit), at(0, 0, -2*limit)), true},
		{"the whole range askew", row("a", 2, at(-limit, limit, -limit), at(2*limit-100, -2*limit, 2*limit)), true},
		{"more than the range", row("a", 2, at(0, 0, -limit), at(0, 0, 2*limit+1)), false},
		{"more than the range down", row("a", 2, at(0, 0, limit), at(0, 0, -2*limit-1)), false},
		{"twice the range", row("a", 3, at(0, 0, -limit), at(0, 0, 2*limit)), false},
		{"1000 bars", row("a", 1000, at(0, limit-999*1049, 0), at(0, 1049, 0)), true},
		{"1000 bars too far", row("a", 1000, at(0, limit-999*1049+1, 0), at(0, 1049, 0)), false},
		{"the greatest place", run("a", at(math.MaxInt, math.MaxInt, math.MaxInt)), false},
		{"the least place", run("a", at(math.MinInt, math.MinInt, math.MinInt)), false},
		{"back from the greatest place", row("a", 2, at(0, math.MaxInt, 0), at(0, -math.MaxInt, 0)), false},
		{"back from the least place", row("a", 2, at(0, 0, math.MinInt), at(0, 0, math.MinInt)), false},
		{"beyond the greatest number", row("a", 2, at(0, 1, 0), at(0, math.MaxInt, 0)), false},
		{"the least step", row("a", 2, at(0, 0, 0), at(math.MinInt, 0, 0)), false},
		// Many such steps come back to where they began, if they do not fit.
		{"2 of the least step", row("a", 3, at(0, 0, 0), at(0, 0, math.MinInt)), false},
		{"4 of 2^62", row("a", 5, at(0, 0, 0), at(1<<62, 0, 0)), false},
		{"8 of 2^61", row("a", 9, at(0, 0, 0), at(0, 1<<61, 0)), false},
		{"512 of -2^55", row("a", 513, at(0, 0, 0), at(0, 0, -1<<55)), false},
		{"512 of 2^55 + 1", row("a", 513, at(0, 0, 0), at(0, 0, 1<<55+1)), false},
		{"16 of 2^28", row("a", 17, at(0, 0, 0), at(1<<28, 0, 0)), false},
	} {
		accepts(t, c.name, cage(), []api.Run{c.run}, c.valid)
		accepts(t, c.name+", second", cage(), []api.Run{row("c", 3, at(0, 0, 0), at(5, 0, 0)), c.run}, c.valid)
	}
}

// example returns a schedule and its runs, with what is known of their laid bars, reckoned by hand.
func example() ([]api.Bar, []api.Run, []known) {
	runs := []api.Run{
		{Mark: "a", Turn: turn(2, -1), At: at(5, 5, 5), Step: at(0, 0, 10), Count: 2},
		{Mark: "b", Turn: turn(3, -1), At: at(0, 0, 5), Step: at(1, 2, 3), Count: 1},
		// X goes to Z, and Y, of which the link begins by going down 10, to Y.
		{Mark: "c", Turn: turn(3, 2), At: at(1000, 200, 30), Step: at(-100, 0, 0), Count: 3},
		{Mark: "a", Turn: turn(-1, 3), At: at(-7, 8, 9), Step: at(math.MaxInt, 0, math.MinInt), Count: 1},
	}
	link := func(x int) known {
		return known{"c", []api.Box{
			from(x, 190, 30, x, 200, 30), from(x, 190, 30, x, 190, 70), from(x, 190, 70, x, 250, 70),
			from(x, 250, 30, x, 250, 70), from(x, 190, 30, x, 250, 30), from(x, 190, 30, x, 190, 40),
		}, from(x, 190, 30, x, 250, 70)}
	}
	return cage(), runs, []known{
		{"a", []api.Box{from(5, 5, 5, 5, 105, 5)}, from(5, 5, 5, 5, 105, 5)},
		{"a", []api.Box{from(5, 5, 15, 5, 105, 15)}, from(5, 5, 15, 5, 105, 15)},
		{"b", []api.Box{from(0, 0, 5, 0, 0, 25), from(-30, 0, 25, 0, 0, 25)}, from(-30, 0, 5, 0, 0, 25)},
		link(1000), link(900), link(800),
		{"a", []api.Box{from(-107, 8, 9, -7, 8, 9)}, from(-107, 8, 9, -7, 8, 9)},
	}
}

// known is what is known of a laid bar.
type known struct {
	mark string
	legs []api.Box
	hull api.Box
}

// P16.1, P16.2
func TestLaidBars(t *testing.T) {
	bars, runs, l := example()
	if n, e := laid.Count(bars, runs); n != len(l) || e != api.OK || !laid.Valid(bars, runs) {
		t.Errorf("%d laid bars, %d", n, e)
	}
	for i, c := range l {
		if mark, e := laid.Mark(bars, runs, i); mark != c.mark || e != api.OK {
			t.Errorf("the mark of %d is %q, %d", i, mark, e)
		}
		if legs, e := laid.Legs(bars, runs, i); !slices.Equal(legs, c.legs) || e != api.OK {
			t.Errorf("the legs of %d are %v, %d", i, legs, e)
		}
		if hull, e := laid.Hull(bars, runs, i); hull != c.hull || e != api.OK {
			t.Errorf("the hull of %d is %v, %d", i, hull, e)
		}
	}
	for _, i := range []int{-1, -2, -7, len(l), len(l) + 1, 2000, 1 << 32, -1 << 32, math.MaxInt, math.MinInt} {
		refuses(t, "the example", bars, runs, i, api.ErrRange)
	}
}

// P16.2: bars that are not turned, of the other shapes.
func TestShapes(t *testing.T) {
	for _, c := range []struct {
		bar  api.Bar
		legs []api.Box
		hull api.Box
	}{
		{bar("a", 1, api.You, 20, 50, 30),
			[]api.Box{from(0, -20, 0, 0, 0, 0), from(0, -20, 0, 50, -20, 0), from(50, -20, 0, 50, 10, 0)}, from(0, -20, 0, 50, 10, 0)},
		{bar("a", 1, api.Zed, 20, 50, 30),
			[]api.Box{from(0, 0, 0, 20, 0, 0), from(20, 0, 0, 20, 50, 0), from(20, 50, 0, 50, 50, 0)}, from(0, 0, 0, 50, 50, 0)},
		{bar("a", 1, api.Space, 20, 50, 30),
			[]api.Box{from(0, 0, 0, 20, 0, 0), from(20, 0, 0, 20, 50, 0), from(20, 50, 0, 20, 50, 30)}, from(0, 0, 0, 20, 50, 30)},
		// A hat goes farthest along Y, and a chair against it, between the ends.
		{bar("a", 1, api.Hat, 1, 20, 3, 20, 5),
			[]api.Box{from(0, 0, 0, 1, 0, 0), from(1, 0, 0, 1, 20, 0), from(1, 20, 0, 4, 20, 0), from(4, 0, 0, 4, 20, 0), from(4, 0, 0, 9, 0, 0)},
			from(0, 0, 0, 9, 20, 0)},
		{bar("a", 1, api.Chair, 20, 50, 30),
			[]api.Box{from(0, 0, 0, 0, 0, 20), from(0, -50, 20, 0, 0, 20), from(0, -50, 20, 30, -50, 20), from(30, -50, 20, 30, 0, 20), from(30, 0, 20, 30, 0, 40)},
			from(0, -50, 0, 30, 0, 40)},
	} {
		bars, runs := []api.Bar{c.bar}, []api.Run{run("a", at(0, 0, 0))}
		if legs, e := laid.Legs(bars, runs, 0); !slices.Equal(legs, c.legs) || e != api.OK {
			t.Errorf("the legs of %v are %v, %d", c.bar, legs, e)
		}
		if hull, e := laid.Hull(bars, runs, 0); hull != c.hull || e != api.OK {
			t.Errorf("the hull of %v is %v, %d", c.bar, hull, e)
		}
	}
}

// P16.3
func TestBalance(t *testing.T) {
	of := func(mark string, n int) api.Run { return row(mark, n, at(0, 0, 0), at(0, 0, 5)) }
	few := func(mark string) api.Finding { return api.Finding{Kind: 1, Name: mark} }
	more := func(mark string) api.Finding { return api.Finding{Kind: 2, Name: mark} }
	for i, c := range []struct {
		bars []api.Bar
		runs []api.Run
		want []api.Finding
	}{
		{nil, nil, nil},
		{cage(), nil, []api.Finding{few("a"), few("b"), few("c")}},
		{cage(), []api.Run{of("c", 3), of("b", 2), of("a", 4)}, nil},
		{cage(), []api.Run{of("a", 3), of("b", 1), of("c", 2)}, []api.Finding{few("a"), few("b"), few("c")}},
		{cage(), []api.Run{of("c", 4), of("b", 3), of("a", 5)}, []api.Finding{more("a"), more("b"), more("c")}},
		{cage(), []api.Run{of("a", 4), of("b", 3)}, []api.Finding{more("b"), few("c")}},
		{cage(), []api.Run{of("b", 1), of("a", 4), of("b", 1), of("c", 4)}, []api.Finding{more("c")}},
		{cage(), []api.Run{of("a", 2), of("a", 2)}, []api.Finding{few("b"), few("c")}},
		{cage(), []api.Run{of("a", 4), of("a", 1), of("b", 2), of("c", 3)}, []api.Finding{more("a")}},
		{cage(), []api.Run{of("a", 1), of("a", 4), of("b", 2), of("c", 3)}, []api.Finding{more("a")}},
		{cage(), []api.Run{of("a", 4), of("a", 4), of("b", 2), of("c", 3)}, []api.Finding{more("a")}},
		{cage(), []api.Run{of("a", 1), of("c", 3), of("a", 2), of("b", 2)}, []api.Finding{few("a")}},
		{cage(), []api.Run{of("a", 1000), of("b", 999), of("c", 1)}, []api.Finding{more("a"), more("b"), few("c")}},
		// In the order of the schedule, not of names or runs.
		{[]api.Bar{bar("z", 1, api.Straight, 9), bar("a", 1, api.Straight, 9), bar("m", 1000, api.Straight, 9)},
			[]api.Run{of("m", 1), of("z", 2)}, []api.Finding{more("z"), few("a"), few("m")}},
		{[]api.Bar{bar("z", 1000, api.Straight, 9)}, []api.Run{of("z", 1000)}, nil},
		{[]api.Bar{bar("z", 1000, api.Straight, 9)}, []api.Run{of("z", 1000), of("z", 1000)}, []api.Finding{more("z")}},
	} {
		if l, e := laid.Balance(c.bars, c.runs); !slices.Equal(l, c.want) || e != api.OK {
			t.Errorf("%d: the balance is %v, %d", i, l, e)
		}
	}
}

// P16.4: only places are looked at, and changed.
func TestMoved(t *testing.T) {
	runs := []api.Run{
		{Mark: "a", Turn: turn(2, -1), At: at(5, 6, 7), Step: at(1, 2, 3), Count: 4},
		{Mark: "", Turn: turn(9, 9), At: at(-limit, limit, 0), Step: at(math.MaxInt, math.MinInt, 0), Count: math.MinInt},
		{Mark: strings.Repeat("x", 99), At: at(0, 1, 2), Count: math.MaxInt},
	}
	want := slices.Clone(runs)
	want[0].At, want[1].At, want[2].At = at(15, 4, 10), at(-limit+10, limit-2, 3), at(10, -1, 5)
	before := slices.Clone(runs)
	l, e := laid.Moved(runs, at(10, -2, 3))
	if !slices.Equal(l, want) || e != api.OK {
		t.Errorf("moved: %v, %d", l, e)
	}
	clear(l)
	if !slices.Equal(runs, before) {
		t.Errorf("the argument was changed to %v", runs)
	}
	for _, runs := range [][]api.Run{nil, {}} {
		if l, e := laid.Moved(runs, at(2*limit, -2*limit, 0)); len(l) != 0 || e != api.OK {
			t.Errorf("nothing is moved to %v, %d", l, e)
		}
	}
	most := slices.Repeat([]api.Run{run("a", at(1, 2, 3))}, api.MaxRuns)
	for _, by := range []api.Point{at(0, 0, 0), at(1, 1, 1)} {
		l, e := laid.Moved(most, by)
		far := func(r api.Run) bool { return r != run("a", at(1+by.X, 2+by.Y, 3+by.Z)) }
		if len(l) != api.MaxRuns || slices.ContainsFunc(l, far) || e != api.OK {
			t.Errorf("60 runs, moved by %v: %v, %d", by, l, e)
		}
	}
}

// along returns points with a coordinate along each axis in turn, and smaller ones along the others.
func along(n int) []api.Point {
	return []api.Point{at(n, 0, 0), at(0, n, 0), at(0, 0, n), at(n, 7, -8), at(-7, n, 8), at(7, 8, n)}
}

// P16.4: each coordinate has its limits.
func TestMovedTooFar(t *testing.T) {
	for _, c := range []struct {
		place, by int
		e         api.Errno
	}{
		{0, limit, api.OK}, {0, -limit, api.OK}, {0, limit + 1, api.ErrRange}, {0, -limit - 1, api.ErrRange},
		{limit, 0, api.OK}, {-limit, 0, api.OK}, {limit, 1, api.ErrRange}, {-limit, -1, api.ErrRange},
		{limit, -2 * limit, api.OK}, {-limit, 2 * limit, api.OK}, {limit, -2*limit - 1, api.ErrRange}, {-limit, 2*limit + 1, api.ErrRange},
		// The image would be within the limits, but not the place, nor by.
		{limit + 1, -1, api.ErrRange}, {-limit - 1, 1, api.ErrRange}, {limit + 1, -2 * limit, api.ErrRange}, {-limit - 1, 2 * limit, api.ErrRange},
		{limit + 5, -2*limit - 1, api.ErrRange}, {3 * limit, -2 * limit, api.ErrRange}, {limit - 5, 6, api.ErrRange}, {limit - 5, 5, api.OK},
		{math.MaxInt, math.MinInt, api.ErrRange}, {math.MinInt, math.MinInt, api.ErrRange}, {math.MaxInt, -math.MaxInt, api.ErrRange},
		{0, math.MaxInt, api.ErrRange}, {0, math.MinInt, api.ErrRange}, {0, 1 << 32, api.ErrRange}, {0, -1 << 32, api.ErrRange},
	} {
		for axis, place := range along(c.place) {
			by := along(c.by)[axis]
			// A run from which by leads as far beyond the middle.
			middle := run("b", at(-by.X/2, -by.Y/2, -by.Z/2))
			for i := range 3 {
				runs := []api.Run{middle, middle, middle}
				runs[i] = run("a", place)
				l, e := laid.Moved(runs, by)
				if e != c.e || (e == api.OK) != (len(l) == 3) || e == api.OK && l[i].At != at(place.X+by.X, place.Y+by.Y, place.Z+by.Z) {
					t.Errorf("%v as %d of 3, moved by %v: %v, %d", place, i, by, l, e)
				}
			}
		}
	}
	for _, n := range []int{2*limit + 1, -2*limit - 1, math.MaxInt, math.MinInt} {
		for _, by := range along(n) {
			if l, e := laid.Moved(nil, by); len(l) != 0 || e != api.ErrRange {
				t.Errorf("nothing, moved by %v: %v, %d", by, l, e)
			}
		}
	}
	for _, n := range []int{61, 62, 1000} {
		for _, place := range append(along(limit+1), at(0, 0, 0)) {
			for _, by := range append(along(3*limit), at(0, 0, 0)) {
				if l, e := laid.Moved(slices.Repeat([]api.Run{run("a", place)}, n), by); len(l) != 0 || e != api.ErrFull {
					t.Errorf("%d runs at %v, moved by %v: %v, %d", n, place, by, l, e)
				}
			}
		}
	}
}

// P16.2, P16.3: arguments stay as they are, and results do not change each other.
func TestMemory(t *testing.T) {
	bars, runs, l := example()
	oldBars, oldRuns := copied(bars), slices.Clone(runs)
	legs, _ := laid.Legs(bars, runs, 3)
	clear(legs)
	findings, _ := laid.Balance(bars, runs)
	clear(findings)
	for i, c := range l {
		if legs, e := laid.Legs(bars, runs, i); !slices.Equal(legs, c.legs) || e != api.OK {
			t.Errorf("after a change the legs of %d are %v, %d", i, legs, e)
		}
	}
	if findings, e := laid.Balance(bars, runs); !slices.Equal(findings, []api.Finding{{Kind: 1, Name: "a"}, {Kind: 1, Name: "b"}}) || e != api.OK {
		t.Errorf("after a change the balance is %v, %d", findings, e)
	}
	if !equal(bars, oldBars) || !slices.Equal(runs, oldRuns) {
		t.Errorf("the arguments were changed to %v, %v", bars, runs)
	}
}
