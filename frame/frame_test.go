package frame_test

import (
	"math"
	"slices"
	"testing"

	"stirrup/api"
	"stirrup/frame"
)

const limit = api.MaxLength

func at(x, y, z int) api.Point { return api.Point{X: x, Y: y, Z: z} }

func turn(x, y int) api.Turn { return api.Turn{X: x, Y: y} }

// from makes a box of its lowest and its highest coordinates.
func from(a, b, c, d, e, f int) api.Box { return api.Box{Lo: at(a, b, c), Hi: at(d, e, f)} }

// turns has what each turn makes of the point (1, 2, 3), and the turn back, found by hand: the image of X has the 1, that
// of Y the 2, and the 3 has the sign that leaves a right-handed system.
var turns = []struct {
	t     api.Turn
	image api.Point
	back  api.Turn
}{
	{turn(-3, -2), at(-3, -2, -1), turn(-3, -2)},
	{turn(-3, -1), at(-2, 3, -1), turn(-2, 3)},
	{turn(-3, 1), at(2, -3, -1), turn(2, -3)},
	{turn(-3, 2), at(3, 2, -1), turn(3, 2)},
	{turn(-2, -3), at(3, -1, -2), turn(3, -1)},
	{turn(-2, -1), at(-2, -1, -3), turn(-2, -1)},
	{turn(-2, 1), at(2, -1, 3), turn(2, -1)},
	{turn(-2, 3), at(-3, -1, 2), turn(-3, -1)},
	{turn(-1, -3), at(-1, -3, -2), turn(-1, -3)},
	{turn(-1, -2), at(-1, -2, 3), turn(-1, -2)},
	{turn(-1, 2), at(-1, 2, -3), turn(-1, 2)},
	{turn(-1, 3), at(-1, 3, 2), turn(-1, 3)},
	{turn(1, -3), at(1, 3, -2), turn(1, 3)},
	{turn(1, -2), at(1, -2, -3), turn(1, -2)},
	{turn(1, 2), at(1, 2, 3), turn(1, 2)},
	{turn(1, 3), at(1, -3, 2), turn(1, -3)},
	{turn(2, -3), at(-3, 1, -2), turn(-3, 1)},
	{turn(2, -1), at(-2, 1, 3), turn(-2, 1)},
	{turn(2, 1), at(2, 1, -3), turn(2, 1)},
	{turn(2, 3), at(3, 1, 2), turn(3, 1)},
	{turn(3, -2), at(3, -2, 1), turn(3, -2)},
	{turn(3, -1), at(-2, -3, 1), turn(-2, -3)},
	{turn(3, 1), at(2, 3, 1), turn(2, 3)},
	{turn(3, 2), at(-3, 2, 1), turn(-3, 2)},
}

// notAxes returns numbers that are no axes, among them some whose lowest bits are those of an axis.
func notAxes() []int {
	return []int{
		0, 4, -4, 5, -5, 6, -6, 7, 100, -100, 1<<8 + 1, 1<<16 + 2, 1<<32 + 1, 1<<32 - 1, -1<<32 + 2, -1 << 32, 1<<62 + 3,
		math.MinInt, math.MinInt + 1, math.MinInt + 3, math.MaxInt, math.MaxInt - 2,
	}
}

// notTurns returns turns that are not valid.
func notTurns() []api.Turn {
	l := []api.Turn{{}, turn(math.MinInt, math.MaxInt), turn(math.MinInt, math.MinInt), turn(4, -4), turn(0, 4)}
	for _, axis := range []int{1, -1, 2, -2, 3, -3} {
		l = append(l, turn(axis, axis), turn(axis, -axis))
		for _, no := range notAxes() {
			l = append(l, turn(axis, no), turn(no, axis))
		}
	}
	return l
}

// farPoints returns points that are not near, most of them in one coordinate only.
func farPoints() []api.Point {
	l := []api.Point{
		at(limit+1, limit+1, limit+1), at(math.MinInt, math.MinInt, math.MinInt), at(math.MaxInt, math.MinInt, math.MaxInt),
	}
	for _, n := range []int{limit + 1, -limit - 1, 2 * limit, -3 * limit, 1 << 32, -1 << 32, math.MaxInt, math.MinInt} {
		l = append(l, at(n, 0, 0), at(0, n, 0), at(0, 0, n), at(n, limit, -limit), at(-limit, n, limit), at(limit, -limit, n))
	}
	return l
}

// edges returns points at, and near, the limits.
func edges() []api.Point {
	var l []api.Point
	for _, x := range []int{-limit, 0, limit} {
		for _, y := range []int{-limit, -1, limit} {
			for _, z := range []int{-limit, 7, limit} {
				l = append(l, at(x, y, z))
			}
		}
	}
	return l
}

// P15.1
func TestValid(t *testing.T) {
	for _, c := range turns {
		if !frame.Valid(c.t) {
			t.Errorf("%v is not valid", c.t)
		}
	}
	for _, no := range notTurns() {
		if frame.Valid(no) {
			t.Errorf("%v is valid", no)
		}
	}
	for x := -70; x <= 70; x++ {
		for y := -70; y <= 70; y++ {
			listed := false
			for _, c := range turns {
				listed = listed || c.t == turn(x, y)
			}
			if frame.Valid(turn(x, y)) != listed {
				t.Errorf("%d, %d is valid: %t", x, y, !listed)
			}
		}
	}
}

// P15.1
func TestAll(t *testing.T) {
	var want []api.Turn
	for _, c := range turns {
		want = append(want, c.t)
	}
	l := frame.All()
	if !slices.Equal(l, want) {
		t.Errorf("all turns are %v", l)
	}
	clear(l)
	if l := frame.All(); !slices.Equal(l, want) {
		t.Errorf("after a change all turns are %v", l)
	}
}

// P15.1, P15.2
func TestImagesAndTurnsBack(t *testing.T) {
	for _, c := range turns {
		if p, e := frame.Apply(c.t, at(1, 2, 3)); p != c.image || e != api.OK {
			t.Errorf("%v maps (1, 2, 3) to %v, %d", c.t, p, e)
		}
		if p, e := frame.Apply(c.t, at(-10, -20, -30)); p != at(-10*c.image.X, -10*c.image.Y, -10*c.image.Z) || e != api.OK {
			t.Errorf("%v maps (-10, -20, -30) to %v, %d", c.t, p, e)
		}
		if p, e := frame.Apply(c.t, at(0, 0, 0)); p != at(0, 0, 0) || e != api.OK {
			t.Errorf("%v maps (0, 0, 0) to %v, %d", c.t, p, e)
		}
		if back, e := frame.Back(c.t); back != c.back || e != api.OK {
			t.Errorf("the turn back of %v is %v, %d", c.t, back, e)
		}
	}
}

// P15.1
func TestThen(t *testing.T) {
	for _, c := range []struct{ a, b, want api.Turn }{
		{turn(1, 2), turn(1, 2), turn(1, 2)},
		{turn(2, -1), turn(2, -1), turn(-1, -2)},
		{turn(-1, -2), turn(2, -1), turn(-2, 1)},
		{turn(2, -1), turn(-2, 1), turn(1, 2)},
		// X to Y, and then Y to Z; Y to the opposite of X, which stays.
		{turn(2, -1), turn(1, 3), turn(3, -1)},
		// X stays, and then goes to Y; Y to Z, which stays.
		{turn(1, 3), turn(2, -1), turn(2, 3)},
		{turn(2, 3), turn(2, 3), turn(3, 1)},
		{turn(2, 3), turn(3, 2), turn(2, -1)},
		{turn(3, 2), turn(2, 3), turn(1, 3)},
		{turn(1, -2), turn(-1, 2), turn(-1, -2)},
		{turn(-3, -2), turn(-3, -1), turn(-2, 1)},
	} {
		if both, e := frame.Then(c.a, c.b); both != c.want || e != api.OK {
			t.Errorf("%v after %v is %v, %d", c.b, c.a, both, e)
		}
	}
}

// P15.1, P15.2, P15.3: a turn that is not valid comes before anything else.
func TestTurnsThatAreNotValid(t *testing.T) {
	far := farPoints()[0]
	valid := turn(2, -1)
	for _, no := range notTurns() {
		for _, pair := range [][2]api.Turn{{no, valid}, {valid, no}, {no, no}} {
			if both, e := frame.Then(pair[0], pair[1]); both != (api.Turn{}) || e != api.ErrArg {
				t.Errorf("%v after %v is %v, %d", pair[1], pair[0], both, e)
			}
		}
		if back, e := frame.Back(no); back != (api.Turn{}) || e != api.ErrArg {
			t.Errorf("the turn back of %v is %v, %d", no, back, e)
		}
		for _, p := range []api.Point{{}, at(1, 2, 3), far} {
			if image, e := frame.Apply(no, p); image != (api.Point{}) || e != api.ErrArg {
				t.Errorf("%v maps %v to %v, %d", no, p, image, e)
			}
			for _, l := range [][]api.Point{nil, {p}, slices.Repeat([]api.Point{p}, api.MaxList+1)} {
				if path, e := frame.Path(no, p, l); len(path) != 0 || e != api.ErrArg {
					t.Errorf("%v makes of %d points %v, %d", no, len(l), path, e)
				}
			}
			for _, b := range []api.Box{{}, from(0, 0, 0, 1, 2, 3), from(1, 0, 0, 0, 0, 0), {Hi: far}} {
				if image, e := frame.Box(no, p, b); image != (api.Box{}) || e != api.ErrArg {
					t.Errorf("%v maps %v to %v, %d", no, b, image, e)
				}
			}
		}
	}
}

// P15.2
func TestApplyToFarPoints(t *testing.T) {
	for _, c := range turns {
		for _, p := range edges() {
			if _, e := frame.Apply(c.t, p); e != api.OK {
				t.Errorf("%v does not map %v: %d", c.t, p, e)
			}
		}
		for _, p := range farPoints() {
			if image, e := frame.Apply(c.t, p); image != (api.Point{}) || e != api.ErrRange {
				t.Errorf("%v maps %v to %v, %d", c.t, p, image, e)
			}
		}
	}
}

// P15.3
func TestPath(t *testing.T) {
	for i, c := range []struct {
		t       api.Turn
		at      api.Point
		l, want []api.Point
	}{
		{turn(2, -1), at(5, 5, 5), []api.Point{at(0, 0, 0), at(100, 0, 0)}, []api.Point{at(5, 5, 5), at(5, 105, 5)}},
		{turn(2, -1), at(0, 0, 0), []api.Point{at(1, 2, 3)}, []api.Point{at(-2, 1, 3)}},
		{turn(2, -1), at(10, 20, 30), []api.Point{at(5, 7, 1), at(5, 0, 0), at(5, 7, 1)}, []api.Point{at(3, 25, 31), at(10, 25, 30), at(3, 25, 31)}},
		{turn(1, -3), at(-1, -2, -3), []api.Point{at(1, 2, 3), at(-4, 0, 9)}, []api.Point{at(0, 1, -5), at(-5, 7, -3)}},
		{turn(-3, 2), at(0, 0, 4), []api.Point{at(1, 2, 3)}, []api.Point{at(3, 2, 3)}},
		{turn(1, 2), at(7, 8, 9), nil, nil},
		{turn(1, 2), at(limit, -limit, limit), []api.Point{}, nil},
		// The image may leave the limits.
		{turn(1, 2), at(limit, limit, limit), []api.Point{at(limit, limit, limit)}, []api.Point{at(2*limit, 2*limit, 2*limit)}},
		{turn(-2, 1), at(limit, -limit, -limit), []api.Point{at(limit, limit, -limit)}, []api.Point{at(2*limit, -2*limit, -2*limit)}},
	} {
		before := slices.Clone(c.l)
		l, e := frame.Path(c.t, c.at, c.l)
		if !slices.Equal(l, c.want) || e != api.OK {
			t.Errorf("%d: the path is %v, %d", i, l, e)
		}
		clear(l)
		if !slices.Equal(c.l, before) {
			t.Errorf("%d: the argument was changed to %v", i, c.l)
		}
	}
}

// P15.3
func TestPathErrors(t *testing.T) {
	most := slices.Repeat([]api.Point{at(1, 2, 3)}, api.MaxList)
	full := append(slices.Clone(most), at(1, 2, 3))
	for _, c := range turns {
		l, e := frame.Path(c.t, at(0, 0, 0), most)
		if len(l) != api.MaxList || e != api.OK || slices.ContainsFunc(l, func(p api.Point) bool { return p != c.image }) {
			t.Errorf("of as many points as there may be: %d, %d", len(l), e)
		}
		for _, p := range append(farPoints(), at(0, 0, 0)) {
			if l, e := frame.Path(c.t, p, full); len(l) != 0 || e != api.ErrFull {
				t.Errorf("of one point too many, moved by %v: %d, %d", p, len(l), e)
			}
		}
		for _, p := range edges() {
			if l, e := frame.Path(c.t, p, []api.Point{p}); len(l) != 1 || e != api.OK {
				t.Errorf("of %v, moved by it: %v, %d", p, l, e)
			}
		}
		for _, p := range farPoints() {
			for _, l := range [][]api.Point{nil, {{}}, {p}, most} {
				if l, e := frame.Path(c.t, p, l); len(l) != 0 || e != api.ErrRange {
					t.Errorf("moved by %v: %v, %d", p, l, e)
				}
			}
			for _, l := range [][]api.Point{{p}, {p, {}}, {{}, p}, {{}, p, {}}, append(slices.Clone(most[1:]), p), append(slices.Clone(most), p)} {
				want := api.ErrRange
				if len(l) > api.MaxList {
					want = api.ErrFull
				}
				if path, e := frame.Path(c.t, at(1, 2, 3), l); len(path) != 0 || e != want {
					t.Errorf("of %d points with %v: %d, %d", len(l), p, len(path), e)
				}
			}
		}
	}
}

// P15.3
func TestBox(t *testing.T) {
	for i, c := range []struct {
		t       api.Turn
		at      api.Point
		b, want api.Box
	}{
		{turn(1, 2), at(0, 0, 0), from(1, 2, 3, 4, 5, 6), from(1, 2, 3, 4, 5, 6)},
		{turn(1, 2), at(10, 20, 30), from(1, 2, 3, 4, 5, 6), from(11, 22, 33, 14, 25, 36)},
		{turn(2, -1), at(10, 20, 30), from(0, 0, 0, 5, 7, 1), from(3, 20, 30, 10, 25, 31)},
		{turn(-1, -2), at(0, 0, 0), from(1, 2, 3, 4, 5, 6), from(-4, -5, 3, -1, -2, 6)},
		{turn(2, 3), at(0, 0, 0), from(1, 2, 3, 40, 50, 60), from(3, 1, 2, 60, 40, 50)},
		{turn(3, 2), at(1, 1, 1), from(-7, -8, -9, 1, 2, 3), from(-2, -7, -6, 10, 3, 2)},
		{turn(-3, -2), at(0, 0, 0), from(1, 2, 3, 1, 2, 3), from(-3, -2, -1, -3, -2, -1)},
		{turn(1, 3), at(0, -5, 5), from(0, 4, 4, 9, 4, 4), from(0, -9, 9, 9, -9, 9)},
		{turn(1, 2), at(limit, -limit, 0), from(-limit, -limit, -limit, limit, limit, limit), from(0, -2*limit, -limit, 2*limit, 0, limit)},
		{turn(-2, 3), at(limit, limit, -limit), from(limit, limit, limit, limit, limit, limit), from(0, 0, 0, 0, 0, 0)},
		{turn(-2, 3), at(-limit, -limit, limit), from(limit, limit, limit, limit, limit, limit), from(-2*limit, -2*limit, 2*limit, -2*limit, -2*limit, 2*limit)},
	} {
		if b, e := frame.Box(c.t, c.at, c.b); b != c.want || e != api.OK {
			t.Errorf("%d: the box is %v, %d", i, b, e)
		}
	}
}

// wrongBoxes returns boxes of which a Lo is greater than a Hi.
func wrongBoxes() []api.Box {
	return []api.Box{
		from(1, 0, 0, 0, 0, 0), from(0, 1, 0, 0, 0, 0), from(0, 0, 1, 0, 0, 0), from(5, 5, 5, 4, 4, 4), from(0, 0, -3, 9, 9, -4),
		from(limit, 0, 0, limit-1, 9, 9), from(0, -limit+1, 0, 0, -limit, 9), from(limit+1, 0, 0, limit, 0, 0),
		from(math.MaxInt, 0, 0, math.MinInt, 0, 0), from(0, math.MaxInt, 0, 0, math.MinInt, 0), from(0, 0, math.MinInt+1, 0, 0, math.MinInt),
		from(1, 0, 0, 0, 0, limit+1), from(-limit-1, 0, 1, 0, 0, 0), from(math.MinInt, 1, math.MinInt, math.MaxInt, 0, math.MaxInt),
	}
}

// P15.3
func TestBoxErrors(t *testing.T) {
	for _, c := range turns {
		for _, p := range append(farPoints(), at(0, 0, 0)) {
			for _, wrong := range wrongBoxes() {
				if b, e := frame.Box(c.t, p, wrong); b != (api.Box{}) || e != api.ErrArg {
					t.Errorf("%v, moved by %v, is %v, %d", wrong, p, b, e)
				}
			}
		}
		for _, p := range farPoints() {
			for _, b := range []api.Box{{}, from(1, 2, 3, 4, 5, 6), {Lo: p, Hi: p}} {
				if image, e := frame.Box(c.t, p, b); image != (api.Box{}) || e != api.ErrRange {
					t.Errorf("%v, moved by %v, is %v, %d", b, p, image, e)
				}
			}
			// Of a box from the point to the origin some corners are near.
			lo := at(min(p.X, 0), min(p.Y, 0), min(p.Z, 0))
			hi := at(max(p.X, 0), max(p.Y, 0), max(p.Z, 0))
			for _, b := range []api.Box{{Lo: lo, Hi: hi}, {Lo: p, Hi: p}} {
				if image, e := frame.Box(c.t, at(1, 2, 3), b); image != (api.Box{}) || e != api.ErrRange {
					t.Errorf("%v is %v, %d", b, image, e)
				}
			}
		}
	}
}
