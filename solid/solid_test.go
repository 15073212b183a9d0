package solid_test

import (
	"math"
	"slices"
	"strings"
	"testing"

	"stirrup/api"
	"stirrup/solid"
)

const far = api.MaxLength

func at(x, y, z int) api.Point { return api.Point{X: x, Y: y, Z: z} }

// from makes a box of its lowest and its highest coordinates.
func from(a, b, c, d, e, f int) api.Box { return api.Box{Lo: at(a, b, c), Hi: at(d, e, f)} }

func dot(x, y, z int) api.Box { return from(x, y, z, x, y, z) }

// plain returns a solid of boxes without holes.
func plain(l ...api.Box) api.Solid { return api.Solid{Boxes: l} }

// pierced returns a box with holes.
func pierced(b api.Box, holes ...api.Box) api.Solid {
	return api.Solid{Boxes: []api.Box{b}, Holes: holes}
}

// wall returns the wall of the chapter's example.
func wall() api.Solid {
	return pierced(from(0, 0, 0, 1000, 200, 3000), from(400, -10, 1000, 600, 210, 2000))
}

// corner returns two boxes with an edge in common, and nothing else.
func corner() api.Solid { return plain(from(0, 0, 0, 10, 10, 10), from(10, 10, 0, 20, 20, 10)) }

// whole is the greatest box.
var whole = from(-far, -far, -far, far, far, far)

// dice returns a box that is cut into a number of pieces of the width 2 along each axis, by holes that take nothing away.
func dice(x, y, z int) api.Solid {
	s := plain(from(0, 0, 0, 2*x, 2*y, 2*z))
	for i := 2; i < 2*max(x, y, z); i += 4 {
		lo, hi := at(min(i, 2*x-2), min(i, 2*y-2), 90), at(min(i+2, 2*x), min(i+2, 2*y), 100)
		s.Holes = append(s.Holes, api.Box{Lo: lo, Hi: hi}, from(90, 90, min(i, 2*z-2), 100, 100, min(i+2, 2*z)))
	}
	return s
}

// badBoxes returns boxes that no solid has, each for one reason.
func badBoxes() []api.Box {
	return []api.Box{
		{}, from(0, 0, 0, 0, 1, 1), from(0, 0, 0, 1, 0, 1), from(0, 0, 0, 1, 1, 0),
		from(1, 0, 0, 0, 1, 1), from(0, 1, 0, 1, 0, 1), from(0, 0, 1, 1, 1, 0),
		from(-far-1, 0, 0, 1, 1, 1), from(0, -far-1, 0, 1, 1, 1), from(0, 0, -far-1, 1, 1, 1),
		from(0, 0, 0, far+1, 1, 1), from(0, 0, 0, 1, far+1, 1), from(0, 0, 0, 1, 1, far+1),
		from(math.MinInt, 0, 0, 1, 1, 1), from(0, 0, 0, 1, math.MaxInt, 1), from(0, 0, math.MaxInt, 1, 1, math.MinInt),
		from(math.MinInt, math.MinInt, math.MinInt, math.MaxInt, math.MaxInt, math.MaxInt),
	}
}

// badSolids returns solids that are not valid, each for one reason.
func badSolids() []api.Solid {
	good := from(0, 0, 0, 1, 1, 1)
	many := slices.Repeat([]api.Box{good}, api.MaxBoxes)
	l := []api.Solid{
		{}, {Boxes: []api.Box{}}, {Holes: []api.Box{good}},
		{Boxes: append(slices.Clone(many), good)}, {Boxes: many, Holes: append(slices.Clone(many), good)},
		{Boxes: slices.Repeat(many, 100)}, {Boxes: many, Holes: slices.Repeat(many, 100)},
	}
	for _, bad := range badBoxes() {
		l = append(l, plain(bad), plain(good, bad), plain(bad, good), pierced(good, bad), pierced(good, bad, good), pierced(good, good, bad))
	}
	return l
}

// P17.1
func TestValid(t *testing.T) {
	good := from(-1, -1, -1, 0, 0, 0)
	many := slices.Repeat([]api.Box{good}, api.MaxBoxes)
	for i, s := range []api.Solid{
		plain(good), wall(), corner(), plain(whole), pierced(whole, whole), pierced(good, from(5, 5, 5, 6, 6, 6)),
		{Boxes: many}, {Boxes: many, Holes: many}, {Boxes: []api.Box{good}, Holes: many}, {Boxes: many, Holes: []api.Box{good}},
		dice(10, 10, 10),
	} {
		if !solid.Valid(s) {
			t.Errorf("%d: %v is not valid", i, s)
		}
	}
	for i, s := range badSolids() {
		if solid.Valid(s) {
			t.Errorf("%d: %v is valid", i, s)
		}
	}
}

// P17.1
func TestMember(t *testing.T) {
	good := api.Member{Name: "b1", Solid: wall(), Cover: 30, Aggregate: 16, Poker: 40}
	for i, change := range []func(m *api.Member){
		func(m *api.Member) {},
		func(m *api.Member) { m.Name = strings.Repeat("n", api.MaxName) },
		func(m *api.Member) { m.Solid = plain(whole) },
		func(m *api.Member) { m.Cover = 0 },
		func(m *api.Member) { m.Cover = 200 },
		func(m *api.Member) { m.Aggregate = 1 },
		func(m *api.Member) { m.Aggregate = 100 },
		func(m *api.Member) { m.Poker = 1 },
		func(m *api.Member) { m.Poker = 200 },
	} {
		m := good
		change(&m)
		if !solid.Member(m) {
			t.Errorf("%d: %v is not valid", i, m)
		}
	}
	for i, change := range []func(m *api.Member){
		func(m *api.Member) { m.Name = "" },
		func(m *api.Member) { m.Name = "1b" },
		func(m *api.Member) { m.Name = "a b" },
		func(m *api.Member) { m.Name = "b\xff" },
		func(m *api.Member) { m.Name = strings.Repeat("n", api.MaxName+1) },
		func(m *api.Member) { m.Cover = -1 },
		func(m *api.Member) { m.Cover = 201 },
		func(m *api.Member) { m.Cover = math.MinInt },
		func(m *api.Member) { m.Cover = math.MaxInt },
		func(m *api.Member) { m.Aggregate = 0 },
		func(m *api.Member) { m.Aggregate = 101 },
		func(m *api.Member) { m.Aggregate = math.MinInt },
		func(m *api.Member) { m.Aggregate = math.MaxInt },
		func(m *api.Member) { m.Poker = 0 },
		func(m *api.Member) { m.Poker = 201 },
		func(m *api.Member) { m.Poker = math.MinInt },
		func(m *api.Member) { m.Poker = math.MaxInt },
	} {
		m := good
		change(&m)
		if solid.Member(m) {
			t.Errorf("%d: %v is valid", i, m)
		}
	}
	for i, s := range badSolids() {
		m := good
		m.Solid = s
		if solid.Member(m) {
			t.Errorf("%d: a member with %v is valid", i, s)
		}
	}
	if solid.Member(api.Member{}) {
		t.Error("a member without anything is valid")
	}
}

// P17.1
func TestHull(t *testing.T) {
	for _, c := range []struct {
		s    api.Solid
		want api.Box
	}{
		{wall(), from(0, 0, 0, 1000, 200, 3000)},
		{corner(), from(0, 0, 0, 20, 20, 10)},
		{plain(from(5, -7, 3, 6, -6, 4), from(-2, 8, 1, -1, 9, 2)), from(-2, -7, 1, 6, 9, 4)},
		{pierced(from(0, 0, 0, 1, 1, 1), from(-5, -5, -5, 5, 5, 5)), from(0, 0, 0, 1, 1, 1)},
		{plain(whole), whole},
	} {
		if b, e := solid.Hull(c.s); b != c.want || e != api.OK {
			t.Errorf("%v: the hull is %v, %d", c.s, b, e)
		}
	}
}

// P17.2
func TestInside(t *testing.T) {
	closed := pierced(from(0, 0, 0, 10, 10, 10), from(2, 3, 4, 6, 7, 8))
	for _, c := range []struct {
		s    api.Solid
		p    api.Point
		want bool
	}{
		{wall(), at(400, 100, 1500), true}, {wall(), at(401, 100, 1500), false}, {wall(), at(599, 100, 1500), false},
		{wall(), at(600, 100, 1500), true}, {wall(), at(500, 0, 1500), false}, {wall(), at(500, 100, 1000), true},
		{wall(), at(500, 100, 1001), false}, {wall(), at(0, 0, 0), true}, {wall(), at(1000, 200, 3000), true},
		{wall(), at(-1, 0, 0), false}, {wall(), at(0, -1, 0), false}, {wall(), at(0, 0, -1), false},
		{wall(), at(1001, 200, 3000), false}, {wall(), at(1000, 201, 3000), false}, {wall(), at(1000, 200, 3001), false},
		{closed, at(4, 5, 6), false}, {closed, at(3, 4, 5), false}, {closed, at(5, 6, 7), false},
		{closed, at(2, 5, 6), true}, {closed, at(4, 3, 6), true}, {closed, at(4, 5, 4), true},
		{closed, at(6, 5, 6), true}, {closed, at(4, 7, 6), true}, {closed, at(4, 5, 8), true},
		{corner(), at(10, 10, 5), true}, {corner(), at(10, 5, 5), true}, {corner(), at(10, 11, 5), true},
		{corner(), at(9, 11, 5), false}, {corner(), at(11, 9, 5), false}, {corner(), at(15, 15, 5), true},
		// Two holes that touch leave the plane between them.
		{pierced(from(0, 0, 0, 9, 9, 9), from(1, 1, 1, 4, 8, 8), from(4, 1, 1, 8, 8, 8)), at(4, 4, 4), true},
		{pierced(from(0, 0, 0, 9, 9, 9), from(1, 1, 1, 4, 8, 8), from(3, 1, 1, 8, 8, 8)), at(4, 4, 4), false},
		{plain(whole), at(far, -far, far), true}, {plain(from(0, 0, 0, 1, 1, 1)), at(far, -far, far), false},
	} {
		if is, e := solid.Inside(c.s, c.p); is != c.want || e != api.OK {
			t.Errorf("%v in %v: %t, %d", c.p, c.s, is, e)
		}
	}
}

// P17.2
func TestInsideLimits(t *testing.T) {
	for _, p := range []api.Point{
		at(far+1, 0, 0), at(0, far+1, 0), at(0, 0, far+1), at(-far-1, 0, 0), at(0, -far-1, 0), at(0, 0, -far-1),
		at(math.MinInt, 0, 0), at(0, math.MaxInt, 0), at(math.MaxInt, math.MaxInt, math.MinInt),
	} {
		if is, e := solid.Inside(plain(whole), p); is || e != api.ErrRange {
			t.Errorf("%v: %t, %d", p, is, e)
		}
		if is, e := solid.Inside(api.Solid{}, p); is || e != api.ErrArg {
			t.Errorf("%v in a solid that is not valid: %t, %d", p, is, e)
		}
	}
}

// P17.2
func TestContains(t *testing.T) {
	closed := pierced(from(0, 0, 0, 10, 10, 10), from(2, 3, 4, 6, 7, 8))
	halves := plain(from(0, 0, 0, 5, 10, 10), from(5, 0, 0, 10, 10, 10))
	apart := plain(from(0, 0, 0, 5, 10, 10), from(6, 0, 0, 10, 10, 10))
	for _, c := range []struct {
		s    api.Solid
		b    api.Box
		want bool
	}{
		{wall(), from(0, 0, 0, 1000, 200, 1000), true}, {wall(), from(0, 0, 0, 1000, 200, 1001), false},
		{wall(), from(0, 0, 1000, 400, 200, 2000), true}, {wall(), from(0, 0, 1000, 401, 200, 2000), false},
		{wall(), from(600, 0, 0, 1000, 200, 3000), true}, {wall(), from(599, 0, 0, 1000, 200, 3000), false},
		{wall(), from(0, 0, 2000, 1000, 200, 3000), true}, {wall(), from(0, 0, 1999, 1000, 200, 3000), false},
		// Boxes without a width along some axes go along the sides of holes, or through them.
		{wall(), from(400, 50, 900, 400, 60, 2100), true}, {wall(), from(401, 50, 900, 401, 60, 2100), false},
		{wall(), from(100, 50, 1000, 900, 60, 1000), true}, {wall(), from(100, 50, 1001, 900, 60, 1001), false},
		{wall(), from(100, 50, 1500, 900, 50, 1500), false}, {wall(), dot(400, 50, 1500), true}, {wall(), dot(500, 50, 1500), false},
		// Nothing of a box may be outside.
		{wall(), from(-1, 0, 0, 10, 10, 10), false}, {wall(), from(0, -1, 0, 10, 10, 10), false}, {wall(), from(0, 0, -1, 10, 10, 10), false},
		{wall(), from(990, 0, 0, 1001, 10, 10), false}, {wall(), from(0, 190, 0, 1, 201, 10), false}, {wall(), from(0, 0, 2990, 1, 1, 3001), false},
		{wall(), from(1001, 0, 0, 1002, 1, 1), false}, {wall(), dot(1001, 0, 0), false}, {wall(), whole, false},
		{closed, from(0, 0, 0, 10, 10, 10), false}, {closed, from(3, 4, 5, 4, 5, 6), false}, {closed, from(2, 3, 4, 6, 7, 4), true},
		{closed, from(2, 3, 4, 2, 7, 8), true}, {closed, from(2, 3, 4, 6, 7, 5), false}, {closed, from(2, 3, 4, 6, 3, 8), true},
		// Boxes may cover one together, also with a plane in common, but nothing may be between them.
		{halves, from(0, 0, 0, 10, 10, 10), true}, {apart, from(0, 0, 0, 10, 10, 10), false},
		{apart, from(4, 1, 1, 5, 9, 9), true}, {apart, from(5, 1, 1, 6, 1, 1), false},
		{corner(), from(10, 10, 0, 10, 10, 10), true}, {corner(), from(9, 10, 0, 11, 10, 10), true}, {corner(), from(9, 9, 0, 11, 11, 10), false},
		// A hole takes away what any of the boxes has.
		{api.Solid{Boxes: halves.Boxes, Holes: []api.Box{from(4, 4, 4, 6, 6, 6)}}, from(0, 0, 0, 10, 10, 5), false},
		{api.Solid{Boxes: halves.Boxes, Holes: []api.Box{from(4, 4, 4, 6, 6, 6)}}, from(0, 0, 0, 10, 10, 4), true},
		{pierced(whole, whole), from(-far, -far, -far, -far, far, far), true}, {pierced(whole, whole), dot(0, 0, 0), false},
		{plain(whole), whole, true}, {pierced(whole, whole), whole, false},
	} {
		if is, e := solid.Contains(c.s, c.b); is != c.want || e != api.OK {
			t.Errorf("%v in %v: %t, %d", c.b, c.s, is, e)
		}
	}
}

// P17.2
func TestContainsOnlyValidBoxes(t *testing.T) {
	for _, b := range badBoxes() {
		if b.Lo.X <= b.Hi.X && b.Lo.Y <= b.Hi.Y && b.Lo.Z <= b.Hi.Z && b.Lo.X >= -far && b.Lo.Y >= -far && b.Lo.Z >= -far &&
			b.Hi.X <= far && b.Hi.Y <= far && b.Hi.Z <= far {
			continue // without a width, but valid
		}
		for _, s := range []api.Solid{plain(whole), wall(), pierced(whole, whole), {}} {
			if is, e := solid.Contains(s, b); is || e != api.ErrArg {
				t.Errorf("%v in %v: %t, %d", b, s, is, e)
			}
		}
	}
}

// P17.3
func TestVolume(t *testing.T) {
	half := from(-far, -far, 0, far, far, 1<<18)
	for i, c := range []struct {
		s    api.Solid
		want int
		e    api.Errno
	}{
		{wall(), 560000000, api.OK},
		{corner(), 2000, api.OK},
		{plain(from(0, 0, 0, 10, 10, 10), from(5, 5, 5, 15, 15, 15)), 1875, api.OK},
		{plain(from(0, 0, 0, 2, 3, 5), from(0, 0, 0, 2, 3, 5)), 30, api.OK},
		{plain(from(0, 0, 0, 2, 3, 5), from(100, 100, 100, 101, 101, 101)), 31, api.OK},
		{pierced(from(0, 0, 0, 10, 10, 10), from(2, 3, 4, 6, 7, 8)), 936, api.OK},
		{pierced(from(0, 0, 0, 10, 10, 10), from(2, 3, 4, 6, 7, 8), from(4, 5, 6, 7, 8, 9)), 1000 - 64 - 27 + 8, api.OK},
		{pierced(from(0, 0, 0, 10, 10, 10), from(-1, -1, -1, 11, 11, 11)), 0, api.OK},
		{pierced(whole, whole), 0, api.OK},
		{dice(10, 10, 10), 8000, api.OK},
		{dice(11, 7, 13), 8008, api.OK},
		{plain(half), 1 << 60, api.OK},
		{plain(half, from(0, 0, 0, 1, 1, 1)), 1 << 60, api.OK},
		{plain(half, half, from(-far, -far, 5, far, far, 9)), 1 << 60, api.OK},
		{plain(half, from(0, 0, 1<<18, 1, 1, 1<<18+1)), 0, api.ErrBig},
		{plain(from(5, 5, -1, 6, 6, 0), half), 0, api.ErrBig},
		{pierced(from(-far, -far, 0, far, far, 1<<18+1), from(-far, -far, 1<<18, far, far, 1<<18+1)), 1 << 60, api.OK},
		{pierced(from(-far, -far, 0, far, far, 1<<18+1), from(1-far, -far, 1<<18, far, far, 1<<18+1)), 0, api.ErrBig},
		{plain(from(-far, -far, -far, far, far, 0)), 0, api.ErrBig},
		{plain(whole), 0, api.ErrBig},
		{plain(from(-far, -far, -far, 0, far, far), from(0, -far, -far, far, far, far)), 0, api.ErrBig},
		{pierced(whole, dot(0, 0, 0), from(1, 1, 1, 2, 2, 2)), 0, api.ErrArg},
		{pierced(whole, from(1-far, -far, -far, far, far, far)), 1 << 42, api.OK},
	} {
		if v, e := solid.Volume(c.s); v != c.want || e != c.e {
			t.Errorf("%d: the volume of %v is %d, %d", i, c.s, v, e)
		}
	}
}

// P17.3
func TestSection(t *testing.T) {
	bent := plain(from(-10, 0, 0, 0, 20, 30), from(-5, 10, 10, 20, 30, 40))
	for _, c := range []struct {
		s    api.Solid
		x    int
		want int
	}{
		{wall(), 400, 400000}, {wall(), 600, 600000}, {wall(), 399, 600000}, {wall(), 599, 400000},
		{wall(), 0, 600000}, {wall(), 999, 600000}, {wall(), 1000, 0}, {wall(), -1, 0},
		{bent, -11, 0}, {bent, -10, 600}, {bent, -6, 600}, {bent, -5, 1000}, {bent, -1, 1000}, {bent, 0, 600}, {bent, 19, 600}, {bent, 20, 0},
		{plain(from(0, 0, 0, 1, 2, 3), from(5, 0, 0, 6, 3, 3)), 3, 0}, {plain(from(0, 0, 0, 1, 2, 3), from(5, 0, 0, 6, 3, 3)), 5, 9},
		{dice(10, 10, 10), 7, 400}, {dice(11, 7, 13), 21, 364},
		{plain(whole), 0, 1 << 42}, {plain(whole), -far, 1 << 42}, {plain(whole), far - 1, 1 << 42}, {plain(whole), far, 0},
		{pierced(whole, whole), 0, 0},
	} {
		if area, e := solid.Section(c.s, c.x); area != c.want || e != api.OK {
			t.Errorf("the cross-section of %v at %d is %d, %d", c.s, c.x, area, e)
		}
	}
	for _, x := range []int{-far - 1, far + 1, math.MinInt, math.MaxInt} {
		if area, e := solid.Section(plain(whole), x); area != 0 || e != api.ErrRange {
			t.Errorf("at %d: %d, %d", x, area, e)
		}
		if area, e := solid.Section(api.Solid{}, x); area != 0 || e != api.ErrArg {
			t.Errorf("at %d of a solid that is not valid: %d, %d", x, area, e)
		}
	}
}

// P17.3
func TestCells(t *testing.T) {
	for _, c := range []struct {
		s    api.Solid
		want []api.Box
	}{
		{plain(from(1, 2, 3, 4, 5, 6)), []api.Box{from(1, 2, 3, 4, 5, 6)}},
		{corner(), []api.Box{from(0, 0, 0, 10, 10, 10), from(10, 10, 0, 20, 20, 10)}},
		{plain(corner().Boxes[1], corner().Boxes[0]), []api.Box{from(0, 0, 0, 10, 10, 10), from(10, 10, 0, 20, 20, 10)}},
		{plain(from(0, 0, 0, 4, 1, 1), from(2, 0, 0, 6, 1, 1)), []api.Box{from(0, 0, 0, 2, 1, 1), from(2, 0, 0, 4, 1, 1), from(4, 0, 0, 6, 1, 1)}},
		{wall(), []api.Box{
			from(0, 0, 0, 400, 200, 1000), from(0, 0, 1000, 400, 200, 2000), from(0, 0, 2000, 400, 200, 3000),
			from(400, 0, 0, 600, 200, 1000), from(400, 0, 2000, 600, 200, 3000),
			from(600, 0, 0, 1000, 200, 1000), from(600, 0, 1000, 1000, 200, 2000), from(600, 0, 2000, 1000, 200, 3000),
		}},
		// A hole that takes nothing away cuts all the same: along Y at 2, while its other sides are outside of the hull.
		{pierced(from(0, 0, 0, 1, 3, 1), from(5, 2, 5, 6, 9, 6)), []api.Box{from(0, 0, 0, 1, 2, 1), from(0, 2, 0, 1, 3, 1)}},
		{pierced(from(0, 0, 0, 1, 3, 1), from(1, 0, 0, 2, 3, 1)), []api.Box{from(0, 0, 0, 1, 3, 1)}},
		{pierced(from(0, 0, 0, 10, 10, 10), from(0, 0, 0, 10, 10, 10)), nil},
		{plain(whole), []api.Box{whole}},
	} {
		if l, e := solid.Cells(c.s); !slices.Equal(l, c.want) || e != api.OK {
			t.Errorf("the parts of %v are %v, %d", c.s, l, e)
		}
	}
	for _, c := range []struct {
		x, y, z int
		e       api.Errno
	}{
		{10, 10, 10, api.OK}, {20, 10, 5, api.OK}, {5, 10, 20, api.OK}, {11, 13, 7, api.ErrFull}, {7, 13, 11, api.ErrFull}, {20, 20, 20, api.ErrFull},
	} {
		want := c.x * c.y * c.z
		if c.e != api.OK {
			want = 0
		}
		if l, e := solid.Cells(dice(c.x, c.y, c.z)); len(l) != want || e != c.e {
			t.Errorf("%v: %d parts, %d", c, len(l), e)
		}
	}
}

// P17.1, P17.2, P17.3
func TestOnlyValidSolids(t *testing.T) {
	for i, s := range badSolids() {
		is, e := solid.Inside(s, at(0, 0, 0))
		if is || e != api.ErrArg {
			t.Errorf("%d: a point: %t, %d", i, is, e)
		}
		if is, e = solid.Contains(s, dot(0, 0, 0)); is || e != api.ErrArg {
			t.Errorf("%d: a box: %t, %d", i, is, e)
		}
		if v, e := solid.Volume(s); v != 0 || e != api.ErrArg {
			t.Errorf("%d: the volume: %d, %d", i, v, e)
		}
		if b, e := solid.Hull(s); b != (api.Box{}) || e != api.ErrArg {
			t.Errorf("%d: the hull: %v, %d", i, b, e)
		}
		if area, e := solid.Section(s, 0); area != 0 || e != api.ErrArg {
			t.Errorf("%d: the cross-section: %d, %d", i, area, e)
		}
		if l, e := solid.Cells(s); l != nil || e != api.ErrArg {
			t.Errorf("%d: the parts: %v, %d", i, l, e)
		}
	}
}

// P17.1, P17.2, P17.3
func TestArgumentsStayAsTheyAre(t *testing.T) {
	s, before := wall(), wall()
	solid.Valid(s)
	solid.Member(api.Member{Name: "b1", Solid: s, Aggregate: 1, Poker: 1})
	solid.Inside(s, at(1, 1, 1))
	solid.Contains(s, from(0, 0, 0, 1, 1, 1))
	solid.Volume(s)
	solid.Hull(s)
	solid.Section(s, 5)
	l, _ := solid.Cells(s)
	again, _ := solid.Cells(s)
	for i := range l {
		l[i] = whole
	}
	if !slices.Equal(s.Boxes, before.Boxes) || !slices.Equal(s.Holes, before.Holes) {
		t.Errorf("%v has become %v", before, s)
	}
	if slices.Contains(again, whole) {
		t.Error("the parts of two calls share their memory")
	}
}
