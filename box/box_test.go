package box_test

import (
	"math"
	"slices"
	"testing"

	"stirrup/api"
	"stirrup/box"
)

const far = api.MaxLength

func at(x, y, z int) api.Point { return api.Point{X: x, Y: y, Z: z} }

// from makes a box of its lowest and its highest coordinates.
func from(a, b, c, d, e, f int) api.Box { return api.Box{Lo: at(a, b, c), Hi: at(d, e, f)} }

func dot(x, y, z int) api.Box { return from(x, y, z, x, y, z) }

var (
	cube  = from(0, 0, 0, 10, 10, 10)
	other = from(13, 14, 5, 20, 20, 20)
	whole = from(-far, -far, -far, far, far, far)
)

// invalidBoxes returns boxes that are not valid, each for one reason.
func invalidBoxes() []api.Box {
	return []api.Box{
		from(1, 0, 0, 0, 0, 0), from(0, 1, 0, 0, 0, 0), from(0, 0, 1, 0, 0, 0),
		from(far, far, far, far-1, far, far), from(far, far, far, far, far-1, far), from(far, far, far, far, far, far-1),
		from(-far-1, 0, 0, 0, 0, 0), from(0, -far-1, 0, 0, 0, 0), from(0, 0, -far-1, 0, 0, 0),
		from(0, 0, 0, far+1, 0, 0), from(0, 0, 0, 0, far+1, 0), from(0, 0, 0, 0, 0, far+1),
		dot(far+1, 0, 0), dot(0, far+1, 0), dot(0, 0, far+1), dot(-far-1, 0, 0), dot(0, -far-1, 0), dot(0, 0, -far-1),
		from(math.MinInt, 0, 0, 0, 0, 0), from(0, 0, 0, 0, math.MaxInt, 0), from(0, 0, math.MaxInt, 0, 0, math.MinInt),
		from(math.MinInt, math.MinInt, math.MinInt, math.MaxInt, math.MaxInt, math.MaxInt),
		dot(math.MinInt, math.MinInt, math.MinInt), dot(math.MaxInt, math.MaxInt, math.MaxInt),
	}
}

// P9.1
func TestValid(t *testing.T) {
	for _, b := range []api.Box{
		{}, cube, other, whole, dot(far, far, far), dot(-far, -far, -far), dot(far, -far, 0), from(0, 0, 0, 1, 0, 0),
		from(0, 0, 0, 0, 1, 0), from(0, 0, 0, 0, 0, 1), from(-5, 3, -7, -5, 3, 8), from(-far, far, 0, far, far, 0),
	} {
		if !box.Valid(b) {
			t.Errorf("%v is not valid", b)
		}
	}
	for _, b := range invalidBoxes() {
		if box.Valid(b) {
			t.Errorf("%v is valid", b)
		}
	}
}

// P9.1
func TestGrown(t *testing.T) {
	for _, c := range []struct {
		b    api.Box
		by   int
		want api.Box
		e    api.Errno
	}{
		{cube, 0, cube, api.OK},
		{cube, 3, from(-3, -3, -3, 13, 13, 13), api.OK},
		{from(-7, 2, 5, -6, 2, 9), 4, from(-11, -2, 1, -2, 6, 13), api.OK},
		{dot(0, 0, 0), far, whole, api.OK},
		{cube, far - 10, from(10-far, 10-far, 10-far, far, far, far), api.OK},
		{cube, far - 9, api.Box{}, api.ErrRange},
		{whole, 0, whole, api.OK},
		{whole, 1, api.Box{}, api.ErrRange},
		{cube, -1, api.Box{}, api.ErrRange},
		{cube, -6, api.Box{}, api.ErrRange},
		{dot(0, 0, 0), far + 1, api.Box{}, api.ErrRange},
		{cube, math.MaxInt, api.Box{}, api.ErrRange},
		{cube, math.MinInt, api.Box{}, api.ErrRange},
		{dot(far, 0, 0), 1, api.Box{}, api.ErrRange},
		{dot(0, far, 0), 1, api.Box{}, api.ErrRange},
		{dot(0, 0, far), 1, api.Box{}, api.ErrRange},
		{dot(-far, 0, 0), 1, api.Box{}, api.ErrRange},
		{dot(0, -far, 0), 1, api.Box{}, api.ErrRange},
		{dot(0, 0, -far), 1, api.Box{}, api.ErrRange},
	} {
		if b, e := box.Grown(c.b, c.by); b != c.want || e != c.e {
			t.Errorf("%v grown by %d is %v, %d", c.b, c.by, b, e)
		}
	}
	for _, b := range invalidBoxes() {
		for _, by := range []int{0, 1, -1, far + 1, math.MaxInt} {
			if b, e := box.Grown(b, by); b != (api.Box{}) || e != api.ErrArg {
				t.Errorf("%v grown by %d: %d", b, by, e)
			}
		}
	}
}

// P9.1
func TestHull(t *testing.T) {
	for _, c := range []struct {
		l    []api.Box
		want api.Box
		e    api.Errno
	}{
		{nil, api.Box{}, api.ErrEmpty},
		{[]api.Box{}, api.Box{}, api.ErrEmpty},
		{[]api.Box{other}, other, api.OK},
		{[]api.Box{cube, other}, from(0, 0, 0, 20, 20, 20), api.OK},
		{[]api.Box{cube, from(-1, 4, 4, 3, 12, 5)}, from(-1, 0, 0, 10, 12, 10), api.OK},
		{[]api.Box{dot(1, 9, 4), dot(5, 3, 6), dot(2, 2, 2)}, from(1, 2, 2, 5, 9, 6), api.OK},
		{[]api.Box{dot(-far, 0, far), dot(far, 5, -far)}, from(-far, 0, -far, far, 5, far), api.OK},
		{append(slices.Repeat([]api.Box{cube}, 3*api.MaxList), other), from(0, 0, 0, 20, 20, 20), api.OK},
	} {
		if b, e := box.Hull(c.l); b != c.want || e != c.e {
			t.Errorf("the hull of %v is %v, %d", c.l, b, e)
		}
	}
	for _, bad := range invalidBoxes() {
		for _, l := range [][]api.Box{{bad}, {bad, cube}, {cube, bad}, {cube, bad, other}} {
			if b, e := box.Hull(l); b != (api.Box{}) || e != api.ErrArg {
				t.Errorf("the hull of %v is %v, %d", l, b, e)
			}
		}
	}
}

// P9.1
func TestMeet(t *testing.T) {
	for _, c := range []struct {
		a, b, want api.Box
		e          api.Errno
	}{
		{cube, cube, cube, api.OK},
		{cube, from(10, -5, 3, 20, 5, 30), from(10, 0, 3, 10, 5, 10), api.OK},
		{cube, dot(10, 10, 10), dot(10, 10, 10), api.OK},
		{cube, dot(10, 10, 11), api.Box{}, api.ErrNone},
		{cube, dot(10, -1, 10), api.Box{}, api.ErrNone},
		{cube, from(11, 0, 0, 20, 5, 30), api.Box{}, api.ErrNone},
		{cube, other, api.Box{}, api.ErrNone},
		{from(0, 0, 0, 9, 0, 0), from(3, -4, 0, 3, 4, 0), dot(3, 0, 0), api.OK},
		{whole, other, other, api.OK},
		{whole, dot(far, far, -far), dot(far, far, -far), api.OK},
		{dot(-far, -far, -far), dot(far, far, far), api.Box{}, api.ErrNone},
	} {
		for _, pair := range [][2]api.Box{{c.a, c.b}, {c.b, c.a}} {
			if b, e := box.Meet(pair[0], pair[1]); b != c.want || e != c.e {
				t.Errorf("%v have %v in common, %d", pair, b, e)
			}
		}
	}
}

// P9.1
func TestContains(t *testing.T) {
	for _, c := range []struct {
		a, b api.Box
		is   bool
	}{
		{cube, cube, true},
		{cube, dot(5, 5, 5), true},
		{dot(5, 5, 5), cube, false},
		{dot(5, 5, 5), dot(5, 5, 5), true},
		{cube, dot(0, 10, 0), true},
		{cube, from(-1, 0, 0, 5, 5, 5), false},
		{cube, from(0, -1, 0, 5, 5, 5), false},
		{cube, from(0, 0, -1, 5, 5, 5), false},
		{cube, from(0, 0, 0, 11, 10, 10), false},
		{cube, from(0, 0, 0, 10, 11, 10), false},
		{cube, from(0, 0, 0, 10, 10, 11), false},
		{cube, other, false},
		{other, cube, false},
		{whole, other, true},
		{other, whole, false},
	} {
		if is, e := box.Contains(c.a, c.b); is != c.is || e != api.OK {
			t.Errorf("%v contains %v: %t, %d", c.a, c.b, is, e)
		}
	}
}

// P9.2
func TestDistances(t *testing.T) {
	for _, c := range []struct {
		a, b        api.Box
		gap, square int
		p, q        api.Point
	}{
		{cube, other, 4, 25, at(10, 10, 5), at(13, 14, 5)},
		{other, cube, 4, 25, at(13, 14, 5), at(10, 10, 5)},
		{cube, cube, -10, 0, at(0, 0, 0), at(0, 0, 0)},
		{cube, from(4, 4, 4, 6, 6, 6), -6, 0, at(4, 4, 4), at(4, 4, 4)},
		{from(4, 4, 4, 6, 6, 6), cube, -6, 0, at(4, 4, 4), at(4, 4, 4)},
		{cube, from(-5, 2, 8, 3, 30, 9), -2, 0, at(0, 2, 8), at(0, 2, 8)},
		{from(0, 0, 0, 10, 0, 0), from(5, -3, -4, 5, -3, 9), 3, 9, at(5, 0, 0), at(5, -3, 0)},
		{from(0, 0, 0, 1, 1, 1), from(1, 1, 1, 2, 2, 2), 0, 0, at(1, 1, 1), at(1, 1, 1)},
		{from(0, 0, 0, 1, 1, 1), from(1, 1, 2, 2, 2, 2), 1, 1, at(1, 1, 1), at(1, 1, 2)},
		{dot(0, 0, 0), dot(-2, -3, -6), 6, 49, at(0, 0, 0), at(-2, -3, -6)},
		{dot(4, 4, 4), dot(4, 4, 4), 0, 0, at(4, 4, 4), at(4, 4, 4)},
		{from(0, 0, 0, 9, 9, 9), from(12, 3, 4, 15, 5, 6), 3, 9, at(9, 3, 4), at(12, 3, 4)},
		{from(0, 0, 0, 9, 9, 9), from(3, -8, 4, 5, -4, 6), 4, 16, at(3, 0, 4), at(3, -4, 4)},
		{dot(-far, -far, -far), dot(far, far, far), 2 * far, 12 * far * far, at(-far, -far, -far), at(far, far, far)},
		{whole, whole, -2 * far, 0, at(-far, -far, -far), at(-far, -far, -far)},
	} {
		gap, e := box.Gap(c.a, c.b)
		square, f := box.Square(c.a, c.b)
		p, q, g := box.Nearest(c.a, c.b)
		if gap != c.gap || square != c.square || e != api.OK || f != api.OK {
			t.Errorf("%v, %v: the gap is %d, %d, the square %d, %d", c.a, c.b, gap, e, square, f)
		}
		if p != c.p || q != c.q || g != api.OK {
			t.Errorf("%v, %v: the nearest points are %v, %v, %d", c.a, c.b, p, q, g)
		}
	}
}

// P9.1, P9.2
func TestPairsThatAreNotValid(t *testing.T) {
	for _, bad := range invalidBoxes() {
		for _, c := range [][2]api.Box{{bad, cube}, {cube, bad}, {bad, bad}, {bad, whole}} {
			if gap, e := box.Gap(c[0], c[1]); gap != 0 || e != api.ErrArg {
				t.Errorf("%v: the gap is %d, %d", c, gap, e)
			}
			if square, e := box.Square(c[0], c[1]); square != 0 || e != api.ErrArg {
				t.Errorf("%v: the square is %d, %d", c, square, e)
			}
			if p, q, e := box.Nearest(c[0], c[1]); p != (api.Point{}) || q != (api.Point{}) || e != api.ErrArg {
				t.Errorf("%v: the nearest points are %v, %v, %d", c, p, q, e)
			}
			if b, e := box.Meet(c[0], c[1]); b != (api.Box{}) || e != api.ErrArg {
				t.Errorf("%v have %v in common, %d", c, b, e)
			}
			if is, e := box.Contains(c[0], c[1]); is || e != api.ErrArg {
				t.Errorf("%v: contained is %t, %d", c, is, e)
			}
		}
	}
}

// rods returns four boxes round a hole of 2 by 2 along the first axis.
func rods() []api.Box {
	return []api.Box{from(0, 0, 0, 10, 4, 10), from(0, 6, 0, 10, 10, 10), from(0, 0, 0, 10, 10, 4), from(0, 0, 6, 10, 10, 10)}
}

// P9.3
func TestCovers(t *testing.T) {
	for i, c := range []struct {
		l  []api.Box
		b  api.Box
		is bool
	}{
		{nil, cube, false},
		{nil, dot(5, 5, 5), false},
		{[]api.Box{cube}, cube, true},
		{[]api.Box{cube}, dot(10, 10, 10), true},
		{[]api.Box{cube}, dot(10, 10, 11), false},
		{[]api.Box{whole}, cube, true},
		{[]api.Box{whole}, whole, true},
		{[]api.Box{cube}, whole, false},
		{[]api.Box{dot(5, 5, 5)}, dot(5, 5, 5), true},
		{[]api.Box{dot(5, 5, 5)}, from(5, 5, 5, 5, 5, 6), false},
		{[]api.Box{dot(5, 5, 5), dot(5, 5, 6)}, from(5, 5, 5, 5, 5, 6), false},
		{[]api.Box{from(0, 0, 0, 4, 10, 10), from(4, 0, 0, 11, 10, 10)}, cube, true},
		{[]api.Box{from(0, 0, 0, 4, 10, 10), from(5, 0, 0, 11, 10, 10)}, cube, false},
		{[]api.Box{from(0, 0, 0, 10, 4, 10), from(0, 4, 0, 10, 10, 10)}, cube, true},
		{[]api.Box{from(0, 0, 0, 10, 4, 10), from(0, 5, 0, 10, 10, 10)}, cube, false},
		{[]api.Box{from(0, 0, 0, 10, 10, 4), from(0, 0, 4, 10, 10, 10)}, cube, true},
		{[]api.Box{from(0, 0, 0, 10, 10, 4), from(0, 0, 5, 10, 10, 10)}, cube, false},
		// Sheets without a width cover nothing of what is around them.
		{[]api.Box{from(0, 0, 0, 4, 10, 10), from(5, 0, 0, 10, 10, 10), from(4, 0, 0, 4, 10, 10)}, cube, false},
		{[]api.Box{from(0, 0, 0, 10, 10, 0), from(0, 0, 10, 10, 10, 10)}, cube, false},
		{[]api.Box{from(0, 0, 0, 10, 10, 0)}, from(0, 0, 0, 10, 10, 0), true},
		{[]api.Box{from(0, 0, 0, 10, 4, 0), from(0, 4, -1, 10, 10, 5)}, from(0, 0, 0, 10, 10, 0), true},
		{[]api.Box{from(0, 0, 0, 10, 4, 0), from(0, 5, -1, 10, 10, 5)}, from(0, 0, 0, 10, 10, 0), false},
		{rods(), cube, false},
		{rods(), from(0, 4, 4, 10, 4, 6), true},
		{rods(), from(0, 4, 4, 10, 6, 4), true},
		{rods(), from(3, 5, 5, 3, 5, 5), false},
		{rods(), from(0, 5, 3, 10, 5, 7), false},
		{append(rods(), from(0, 4, 4, 10, 6, 6)), cube, true},
		{append(rods(), from(0, 4, 4, 9, 6, 6)), cube, false},
		{append(rods(), from(1, 4, 4, 10, 6, 6)), cube, false},
		{append(rods(), from(0, 4, 4, 5, 6, 6), from(5, 4, 4, 10, 6, 6)), cube, true},
	} {
		if is, e := box.Covers(c.l, c.b); is != c.is || e != api.OK {
			t.Errorf("%d: %v cover %v: %t, %d", i, c.l, c.b, is, e)
		}
	}
}

// P9.3
func TestCoversErrors(t *testing.T) {
	bad := invalidBoxes()
	most := slices.Repeat([]api.Box{cube}, 2*api.MaxBoxes)
	if is, e := box.Covers(most, cube); !is || e != api.OK {
		t.Errorf("of as many as there may be: %t, %d", is, e)
	}
	if is, e := box.Covers(append(slices.Clone(most), cube), cube); is || e != api.ErrFull {
		t.Errorf("of one too many: %t, %d", is, e)
	}
	for _, b := range bad {
		for _, l := range [][]api.Box{nil, {cube}, most, append(slices.Clone(most), cube)} {
			if is, e := box.Covers(l, b); is || e != api.ErrArg {
				t.Errorf("%d boxes cover %v: %t, %d", len(l), b, is, e)
			}
			if is, e := box.Covers(append(slices.Clone(l), b), cube); is || e != api.ErrArg {
				t.Errorf("%d boxes and %v: %t, %d", len(l), b, is, e)
			}
		}
		if is, e := box.Covers([]api.Box{b, cube}, cube); is || e != api.ErrArg {
			t.Errorf("%v and a cube: %t, %d", b, is, e)
		}
	}
}
