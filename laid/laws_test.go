package laid_test

import (
	"math/rand"
	"slices"
	"testing"

	"stirrup/api"
	"stirrup/box"
	"stirrup/frame"
	"stirrup/laid"
	"stirrup/shape"
)

// shapes returns a bar of each code, with legs of different lengths.
func shapes() []api.Bar {
	return []api.Bar{
		bar("a", 3, api.Straight, 101), bar("b", 3, api.Ell, 102, 57), bar("c", 3, api.You, 103, 58, 31), bar("d", 3, api.Zed, 104, 59, 32),
		bar("e", 3, api.Space, 105, 60, 33), bar("f", 3, api.Hat, 21, 61, 34, 83, 7), bar("g", 3, api.Link, 107, 62, 35), bar("h", 3, api.Chair, 108, 63, 36),
	}
}

// image returns the sum of the images of the three directions, each times the coordinate of a point; that of Z is the
// cross product of the others.
func image(u api.Turn, p api.Point) api.Point {
	unit := func(axis int) [3]int {
		var l [3]int
		l[max(axis, -axis)-1] = axis / max(axis, -axis)
		return l
	}
	x, y := unit(u.X), unit(u.Y)
	var l [3]int
	for i := range l {
		j, k := (i+1)%3, (i+2)%3
		l[i] = p.X*x[i] + p.Y*y[i] + p.Z*(x[j]*y[k]-x[k]*y[j])
	}
	return at(l[0], l[1], l[2])
}

func plus(p, q api.Point) api.Point { return at(p.X+q.X, p.Y+q.Y, p.Z+q.Z) }

func times(p api.Point, n int) api.Point { return at(p.X*n, p.Y*n, p.Z*n) }

// laidBar is a laid bar by the definition.
type laidBar struct {
	bar   api.Bar
	path  []api.Point
	run   int
	place int
}

// all returns all laid bars of runs, whether their points are within the limits or not.
func all(t *testing.T, bars []api.Bar, runs []api.Run) []laidBar {
	t.Helper()
	var l []laidBar
	for i, r := range runs {
		b := bars[slices.IndexFunc(bars, func(b api.Bar) bool { return b.Mark == r.Mark })]
		path, e := shape.Path(b)
		if e != api.OK {
			t.Fatalf("%v has no path: %d", b, e)
		}
		for k := range r.Count {
			var points []api.Point
			for _, p := range path {
				points = append(points, plus(image(r.Turn, p), plus(r.At, times(r.Step, k))))
			}
			l = append(l, laidBar{bar: b, path: points, run: i, place: k})
		}
	}
	return l
}

// around returns the hull of points.
func around(l ...api.Point) api.Box {
	b := api.Box{Lo: l[0], Hi: l[0]}
	for _, p := range l {
		b.Lo = at(min(b.Lo.X, p.X), min(b.Lo.Y, p.Y), min(b.Lo.Z, p.Z))
		b.Hi = at(max(b.Hi.X, p.X), max(b.Hi.Y, p.Y), max(b.Hi.Z, p.Z))
	}
	return b
}

// near reports whether all points of all laid bars are within the limits.
func near(l []laidBar) bool {
	for _, b := range l {
		if h := around(b.path...); min(h.Lo.X, h.Lo.Y, h.Lo.Z) < -limit || max(h.Hi.X, h.Hi.Y, h.Hi.Z) > limit {
			return false
		}
	}
	return true
}

func pick[T any](r *rand.Rand, l ...T) T { return l[r.Intn(len(l))] }

// somePoint returns a random point with coordinates up to a limit.
func somePoint(r *rand.Rand, most int) api.Point {
	one := func() int { return pick(r, 0, r.Intn(2*most+1)-most) }
	return at(one(), one(), one())
}

// randomBars returns a schedule of up to 9 bars.
func randomBars(r *rand.Rand) []api.Bar {
	bars := shapes()
	r.Shuffle(len(bars), func(i, j int) { bars[i], bars[j] = bars[j], bars[i] })
	most := pick(r, 9, 300, limit/20)
	for i := range bars {
		bars[i].Count = pick(r, 1, 2, 5, 1+r.Intn(30))
		for j := range bars[i].Dims {
			bars[i].Dims[j] = 1 + r.Intn(most)
		}
	}
	return append(bars[:1+r.Intn(len(bars))], bar("z", 1+r.Intn(9), api.Straight, limit/4))
}

// randomRuns returns up to 9 runs of a schedule, whose points are mostly within the limits.
func randomRuns(r *rand.Rand, bars []api.Bar) []api.Run {
	var runs []api.Run
	for range r.Intn(10) {
		run := api.Run{Mark: pick(r, bars...).Mark, Turn: pick(r, frame.All()...), At: somePoint(r, pick(r, 100, limit/2, limit)), Count: pick(r, 1, 2, 5, 1+r.Intn(30))}
		run.Step = somePoint(r, pick(r, 2, 100, limit/run.Count))
		if run.Step == at(0, 0, 0) && r.Intn(5) > 0 {
			run.Step = at(0, 0, 1)
		}
		runs = append(runs, run)
	}
	return runs
}

// each calls a function for random schedules with random runs, most of them valid.
func each(seed int64, do func(r *rand.Rand, bars []api.Bar, runs []api.Run)) {
	r := rand.New(rand.NewSource(seed))
	for range 600 {
		bars := randomBars(r)
		do(r, bars, randomRuns(r, bars))
	}
}

// eachValid calls a function for random schedules with random runs that are valid.
func eachValid(t *testing.T, seed int64, do func(r *rand.Rand, bars []api.Bar, runs []api.Run)) {
	t.Helper()
	n := 0
	each(seed, func(r *rand.Rand, bars []api.Bar, runs []api.Run) {
		if laid.Valid(bars, runs) {
			n++
			do(r, bars, runs)
		}
	})
	if n < 150 {
		t.Errorf("only %d are valid", n)
	}
}

// legsOf returns the legs of a laid bar that is there.
func legsOf(t *testing.T, bars []api.Bar, runs []api.Run, i int) []api.Box {
	t.Helper()
	legs, e := laid.Legs(bars, runs, i)
	if e != api.OK {
		t.Fatalf("%d has no legs: %d", i, e)
	}
	return legs
}

// hullOf returns the hull of a laid bar that is there.
func hullOf(t *testing.T, bars []api.Bar, runs []api.Run, i int) api.Box {
	t.Helper()
	hull, e := laid.Hull(bars, runs, i)
	if e != api.OK {
		t.Fatalf("%d has no hull: %d", i, e)
	}
	return hull
}

// P16.1: runs are valid by the definition.
func TestSomeAreValid(t *testing.T) {
	counts := map[bool]int{}
	each(161, func(_ *rand.Rand, bars []api.Bar, runs []api.Run) {
		l := all(t, bars, runs)
		still := func(r api.Run) bool { return r.Count > 1 && r.Step == at(0, 0, 0) }
		valid := near(l) && !slices.ContainsFunc(runs, still)
		counts[valid]++
		if laid.Valid(bars, runs) != valid {
			t.Errorf("%v of %v are valid: %t", runs, bars, !valid)
		}
		if n, e := laid.Count(bars, runs); valid && (n != len(l) || e != api.OK) {
			t.Errorf("%v has %d laid bars, %d, not %d", runs, n, e, len(l))
		}
	})
	if counts[true] < 150 || counts[false] < 50 {
		t.Errorf("only so many were tried: %v", counts)
	}
}

// side is a point of a box that touches one of its sides, from which out leads away.
type side struct{ corner, out api.Point }

func sidesOf(b api.Box) []side {
	return []side{
		{b.Hi, at(1, 0, 0)}, {b.Hi, at(0, 1, 0)}, {b.Hi, at(0, 0, 1)}, {b.Lo, at(-1, 0, 0)}, {b.Lo, at(0, -1, 0)}, {b.Lo, at(0, 0, -1)},
	}
}

// P16.1: the limits are those of each shape, with each turn, on each side, whether the first bar is at it, or the last one.
func TestLimitsOfShapes(t *testing.T) {
	bars := shapes()
	for _, b := range bars {
		for _, u := range frame.All() {
			whole := around(all(t, bars, []api.Run{{Mark: b.Mark, Turn: u, Count: 1}})[0].path...)
			for _, s := range sidesOf(whole) {
				// How far the bar can be moved until it touches the limit.
				way := limit - (s.corner.X*s.out.X + s.corner.Y*s.out.Y + s.corner.Z*s.out.Z)
				for _, c := range []struct {
					count     int
					way, step int
				}{{1, way, 0}, {4, way, -50}, {4, way - 150, 50}, {2, way - 2, 2}, {2, way, -2}} {
					for more := range 2 {
						run := api.Run{Mark: b.Mark, Turn: u, At: times(s.out, c.way+more), Step: times(s.out, c.step), Count: c.count}
						if laid.Valid(bars, []api.Run{run}) != (more == 0) {
							t.Errorf("%v of %v is valid: %t", run, b, more == 1)
						}
					}
				}
			}
		}
	}
}

// P16.1, P16.2: marks, legs, and hulls are those of the definition.
func TestLaidBarsAreDefined(t *testing.T) {
	eachValid(t, 162, func(_ *rand.Rand, bars []api.Bar, runs []api.Run) {
		l := all(t, bars, runs)
		for i, b := range l {
			var legs []api.Box
			for k := range len(b.path) - 1 {
				legs = append(legs, around(b.path[k], b.path[k+1]))
			}
			if is := legsOf(t, bars, runs, i); !slices.Equal(is, legs) {
				t.Errorf("the legs of %d are %v, not %v", i, is, legs)
			}
			if is := hullOf(t, bars, runs, i); is != around(b.path...) {
				t.Errorf("the hull of %d is %v, not %v", i, is, around(b.path...))
			}
			if mark, e := laid.Mark(bars, runs, i); mark != b.bar.Mark || e != api.OK {
				t.Errorf("the mark of %d is %q, %d, not %q", i, mark, e, b.bar.Mark)
			}
		}
		refuses(t, "one too many", bars, runs, len(l), api.ErrRange)
		refuses(t, "one too few", bars, runs, -1, api.ErrRange)
	})
}

// length returns how long a leg is, which is parallel to an axis.
func length(leg api.Box) int {
	return leg.Hi.X - leg.Lo.X + leg.Hi.Y - leg.Lo.Y + leg.Hi.Z - leg.Lo.Z
}

// P16.5: a laid bar has as many legs as its shape, each as long, and the hull is that of the legs.
func TestLegsAreThoseOfShapes(t *testing.T) {
	eachValid(t, 163, func(_ *rand.Rand, bars []api.Bar, runs []api.Run) {
		for i, b := range all(t, bars, runs) {
			var lengths []int
			legs := legsOf(t, bars, runs, i)
			for _, leg := range legs {
				lengths = append(lengths, length(leg))
			}
			if want, e := shape.Legs(b.bar); !slices.Equal(lengths, want) || e != api.OK {
				t.Errorf("the legs of %d are as long as %v, not %v, %d", i, lengths, want, e)
			}
			hull := hullOf(t, bars, runs, i)
			if want, e := box.Hull(legs); hull != want || e != api.OK {
				t.Errorf("the hull of %d is %v, not %v, %d", i, hull, want, e)
			}
		}
	})
}

// shifted returns boxes that are moved by a point.
func shifted(l []api.Box, by api.Point) []api.Box {
	l = slices.Clone(l)
	for i, b := range l {
		l[i] = api.Box{Lo: plus(b.Lo, by), Hi: plus(b.Hi, by)}
	}
	return l
}

// P16.5: neighbouring bars of a run are apart by its step.
func TestNeighboursAreApart(t *testing.T) {
	eachValid(t, 164, func(_ *rand.Rand, bars []api.Bar, runs []api.Run) {
		for i, b := range all(t, bars, runs) {
			if b.place == 0 {
				continue
			}
			before, after := legsOf(t, bars, runs, i-1), legsOf(t, bars, runs, i)
			if !slices.Equal(after, shifted(before, runs[b.run].Step)) {
				t.Errorf("%v and then %v are not apart by %v", before, after, runs[b.run].Step)
			}
		}
	})
}

// P16.4, P16.5: runs that are moved have all legs moved; where a place would leave the limits, there is an error.
func TestMovedLegs(t *testing.T) {
	counts := map[api.Errno]int{}
	eachValid(t, 165, func(r *rand.Rand, bars []api.Bar, runs []api.Run) {
		by := somePoint(r, pick(r, 10, limit/2, 2*limit))
		want := api.OK
		for _, run := range runs {
			if p := plus(run.At, by); min(p.X, p.Y, p.Z) < -limit || max(p.X, p.Y, p.Z) > limit {
				want = api.ErrRange
			}
		}
		old := slices.Clone(runs)
		moved, e := laid.Moved(runs, by)
		counts[e]++
		if e != want || e != api.OK && len(moved) != 0 || !slices.Equal(runs, old) {
			t.Errorf("%v, moved by %v: %v, %d, not %d", runs, by, moved, e, want)
		}
		if e != api.OK || !laid.Valid(bars, moved) {
			return
		}
		for i := range all(t, bars, runs) {
			if l := legsOf(t, bars, moved, i); !slices.Equal(l, shifted(legsOf(t, bars, runs, i), by)) {
				t.Errorf("moved by %v, %d has the legs %v", by, i, l)
			}
		}
		if back, e := laid.Moved(moved, times(by, -1)); !slices.Equal(back, runs) || e != api.OK {
			t.Errorf("moved by %v and back: %v, %d", by, back, e)
		}
	})
	if counts[api.OK] < 50 || counts[api.ErrRange] < 50 {
		t.Errorf("only so many were tried: %v", counts)
	}
}

// P16.5: a run of several bars is as good as as many runs of one bar.
func TestRunsOfOneBar(t *testing.T) {
	tried := 0
	eachValid(t, 166, func(_ *rand.Rand, bars []api.Bar, runs []api.Run) {
		var single []api.Run
		for _, b := range all(t, bars, runs) {
			run := runs[b.run]
			single = append(single, api.Run{Mark: run.Mark, Turn: run.Turn, At: plus(run.At, times(run.Step, b.place)), Count: 1})
		}
		if len(single) > api.MaxRuns {
			return
		}
		tried++
		if n, e := laid.Count(bars, single); n != len(single) || e != api.OK {
			t.Errorf("%d runs have %d bars, %d", len(single), n, e)
		}
		for i := range single {
			mark, _ := laid.Mark(bars, runs, i)
			if is, e := laid.Mark(bars, single, i); is != mark || e != api.OK {
				t.Errorf("%d has the mark %q, %d, not %q", i, is, e, mark)
			}
			if !slices.Equal(legsOf(t, bars, single, i), legsOf(t, bars, runs, i)) || hullOf(t, bars, single, i) != hullOf(t, bars, runs, i) {
				t.Errorf("%d is another bar in a run of its own", i)
			}
		}
		is, e := laid.Balance(bars, single)
		if want, f := laid.Balance(bars, runs); !slices.Equal(is, want) || e != f {
			t.Errorf("the balance is %v, %d, not %v, %d", is, e, want, f)
		}
	})
	if tried < 100 {
		t.Errorf("only %d were tried", tried)
	}
}

// P16.3, P16.5: findings are those of the definition; there are none exactly if each mark is laid as often as its count.
func TestBalanceIsDefined(t *testing.T) {
	balanced := 0
	check := func(bars []api.Bar, runs []api.Run) {
		var want []api.Finding
		for _, b := range bars {
			n := 0
			for _, l := range all(t, bars, runs) {
				if l.bar.Mark == b.Mark {
					n++
				}
			}
			if n < b.Count {
				want = append(want, api.Finding{Kind: 1, Name: b.Mark})
			}
			if n > b.Count {
				want = append(want, api.Finding{Kind: 2, Name: b.Mark})
			}
		}
		if l, e := laid.Balance(bars, runs); !slices.Equal(l, want) || e != api.OK {
			t.Errorf("the balance of %v and %v is %v, %d, not %v", bars, runs, l, e, want)
		}
		if len(want) == 0 {
			balanced++
		}
	}
	eachValid(t, 167, func(r *rand.Rand, bars []api.Bar, runs []api.Run) {
		check(bars, runs)
		// As many bars as are laid, or nearly so.
		for i, b := range bars {
			n := r.Intn(8)/7*r.Intn(3) - 1
			for _, run := range runs {
				if run.Mark == b.Mark {
					n += run.Count
				}
			}
			bars[i].Count = max(1, n+1)
		}
		check(bars, runs)
		laidToo := slices.DeleteFunc(slices.Clone(bars), func(b api.Bar) bool {
			return !slices.ContainsFunc(runs, func(run api.Run) bool { return run.Mark == b.Mark })
		})
		check(laidToo, runs)
	})
	if balanced < 100 {
		t.Errorf("only %d are balanced", balanced)
	}
}
