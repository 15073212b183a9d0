package solid_test

import (
	"math/big"
	"math/rand"
	"slices"
	"testing"

	"stirrup/api"
	"stirrup/solid"
)

// some returns a random box with a width in each direction, and coordinates from -most to most.
func some(r *rand.Rand, most int) api.Box {
	two := func() (int, int) {
		a := r.Intn(2*most) - most
		return a, a + 1 + r.Intn(most-a)
	}
	var b api.Box
	b.Lo.X, b.Hi.X = two()
	b.Lo.Y, b.Hi.Y = two()
	b.Lo.Z, b.Hi.Z = two()
	return b
}

// someFlat returns a random box, with or without widths.
func someFlat(r *rand.Rand, most int) api.Box {
	b := some(r, most)
	for _, side := range [3][2]*int{{&b.Lo.X, &b.Hi.X}, {&b.Lo.Y, &b.Hi.Y}, {&b.Lo.Z, &b.Hi.Z}} {
		switch r.Intn(6) {
		case 0:
			*side[0] = *side[1]
		case 1:
			*side[1] = *side[0]
		}
	}
	return b
}

// someSolid returns a random solid with at most so many boxes, and at most so many holes.
func someSolid(r *rand.Rand, boxes, holes, most int) api.Solid {
	var s api.Solid
	for range 1 + r.Intn(boxes) {
		s.Boxes = append(s.Boxes, some(r, most))
	}
	for range r.Intn(holes + 1) {
		s.Holes = append(s.Holes, some(r, most))
	}
	return s
}

// cutUp returns a solid with the most boxes and holes, whose sides are all different, with coordinates far apart.
func cutUp(r *rand.Rand, most int) api.Solid {
	places := func() []int {
		l := r.Perm(4 * api.MaxBoxes)
		for i := range l {
			l[i] = l[i]*(2*most/(4*api.MaxBoxes)) - most + r.Intn(most/100)
		}
		return l
	}
	xs, ys, zs := places(), places(), places()
	var all []api.Box
	for i := 0; i < len(xs); i += 2 {
		all = append(all, api.Box{
			Lo: at(min(xs[i], xs[i+1]), min(ys[i], ys[i+1]), min(zs[i], zs[i+1])),
			Hi: at(max(xs[i], xs[i+1]), max(ys[i], ys[i+1]), max(zs[i], zs[i+1])),
		})
	}
	return api.Solid{Boxes: all[:api.MaxBoxes], Holes: all[api.MaxBoxes:]}
}

// isConcrete reports whether a point is in the concrete, from the definition; all coordinates of the solid count twice,
// so that the point may lie at halves of millimetres.
func isConcrete(s api.Solid, p api.Point) bool {
	in := func(b api.Box) bool {
		return 2*b.Lo.X <= p.X && p.X <= 2*b.Hi.X && 2*b.Lo.Y <= p.Y && p.Y <= 2*b.Hi.Y && 2*b.Lo.Z <= p.Z && p.Z <= 2*b.Hi.Z
	}
	strictly := func(b api.Box) bool {
		return 2*b.Lo.X < p.X && p.X < 2*b.Hi.X && 2*b.Lo.Y < p.Y && p.Y < 2*b.Hi.Y && 2*b.Lo.Z < p.Z && p.Z < 2*b.Hi.Z
	}
	return slices.ContainsFunc(s.Boxes, in) && !slices.ContainsFunc(s.Holes, strictly)
}

// isContained reports whether a box is in the concrete, from all its points at halves of millimetres: between whole
// coordinates nothing changes.
func isContained(s api.Solid, b api.Box) bool {
	for x := 2 * b.Lo.X; x <= 2*b.Hi.X; x++ {
		for y := 2 * b.Lo.Y; y <= 2*b.Hi.Y; y++ {
			for z := 2 * b.Lo.Z; z <= 2*b.Hi.Z; z++ {
				if !isConcrete(s, at(x, y, z)) {
					return false
				}
			}
		}
	}
	return true
}

// centre returns the middle of a box, with coordinates that count twice.
func centre(b api.Box) api.Point {
	return at(b.Lo.X+b.Hi.X, b.Lo.Y+b.Hi.Y, b.Lo.Z+b.Hi.Z)
}

// partsOf returns the parts of a solid, from the definition: no side runs through a piece, so that its centre tells of it.
func partsOf(s api.Solid) []api.Box {
	hull := s.Boxes[0]
	for _, b := range s.Boxes {
		hull.Lo = at(min(hull.Lo.X, b.Lo.X), min(hull.Lo.Y, b.Lo.Y), min(hull.Lo.Z, b.Lo.Z))
		hull.Hi = at(max(hull.Hi.X, b.Hi.X), max(hull.Hi.Y, b.Hi.Y), max(hull.Hi.Z, b.Hi.Z))
	}
	sides := slices.Concat(s.Boxes, s.Holes)
	places := func(of func(p api.Point) int) []int {
		var l []int
		for _, b := range sides {
			l = append(l, min(max(of(b.Lo), of(hull.Lo)), of(hull.Hi)), min(max(of(b.Hi), of(hull.Lo)), of(hull.Hi)))
		}
		slices.Sort(l)
		return slices.Compact(l)
	}
	xs := places(func(p api.Point) int { return p.X })
	ys := places(func(p api.Point) int { return p.Y })
	zs := places(func(p api.Point) int { return p.Z })
	var l []api.Box
	for i := range len(xs) - 1 {
		for j := range len(ys) - 1 {
			for k := range len(zs) - 1 {
				if b := from(xs[i], ys[j], zs[k], xs[i+1], ys[j+1], zs[k+1]); isConcrete(s, centre(b)) {
					l = append(l, b)
				}
			}
		}
	}
	return l
}

// sizeOf returns the volume of boxes, which may be too great for an int.
func sizeOf(l ...api.Box) *big.Int {
	sum := new(big.Int)
	for _, b := range l {
		v := big.NewInt(int64(b.Hi.X - b.Lo.X))
		v.Mul(v, big.NewInt(int64(b.Hi.Y-b.Lo.Y)))
		sum.Add(sum, v.Mul(v, big.NewInt(int64(b.Hi.Z-b.Lo.Z))))
	}
	return sum
}

// checkMeasures compares the parts, the volume, and some cross-sections of a solid with the definitions.
func checkMeasures(t *testing.T, s api.Solid, places []int) {
	t.Helper()
	want := partsOf(s)
	l, e := solid.Cells(s)
	if len(want) > api.MaxList {
		if l != nil || e != api.ErrFull {
			t.Errorf("%v: %d parts, not %d; %d", s, len(l), len(want), e)
		}
	} else if !slices.Equal(l, want) || e != api.OK {
		t.Errorf("%v: the parts are %v, not %v; %d", s, l, want, e)
	}
	volume, e := solid.Volume(s)
	if sum := sizeOf(want...); sum.Cmp(big.NewInt(1<<60)) > 0 {
		if volume != 0 || e != api.ErrBig {
			t.Errorf("%v: the volume is %d, not %v; %d", s, volume, sum, e)
		}
	} else if int64(volume) != sum.Int64() || e != api.OK {
		t.Errorf("%v: the volume is %d, not %v; %d", s, volume, sum, e)
	}
	for _, x := range places {
		area := 0
		for _, b := range want {
			if b.Lo.X <= x && x < b.Hi.X {
				area += (b.Hi.Y - b.Lo.Y) * (b.Hi.Z - b.Lo.Z)
			}
		}
		if got, e := solid.Section(s, x); got != area || e != api.OK {
			t.Errorf("%v: the cross-section at %d is %d, not %d; %d", s, x, got, area, e)
		}
	}
}

// P17.2
func TestPointsAndBoxesAgreeWithTheDefinition(t *testing.T) {
	r := rand.New(rand.NewSource(171))
	for range 1500 {
		s := someSolid(r, 3, 3, 3)
		for range 6 {
			b := someFlat(r, 3)
			if is, e := solid.Contains(s, b); is != isContained(s, b) || e != api.OK {
				t.Fatalf("%v contains %v: %t, %d", s, b, is, e)
			}
		}
		for x := -4; x <= 4; x++ {
			p := at(x, r.Intn(9)-4, r.Intn(9)-4)
			if is, e := solid.Inside(s, p); is != isConcrete(s, at(2*p.X, 2*p.Y, 2*p.Z)) || e != api.OK {
				t.Fatalf("%v in %v: %t, %d", p, s, is, e)
			}
		}
	}
}

// P17.3
func TestMeasuresAgreeWithTheDefinition(t *testing.T) {
	r := rand.New(rand.NewSource(172))
	for range 400 {
		checkMeasures(t, someSolid(r, 4, 4, 4), []int{-5, -4, -3, -2, -1, 0, 1, 2, 3, 4})
		checkMeasures(t, someSolid(r, 4, 4, far), []int{-far, r.Intn(2*far) - far, r.Intn(far), far})
	}
	for range 20 {
		checkMeasures(t, someSolid(r, api.MaxBoxes, api.MaxBoxes, 1000), []int{-500, r.Intn(2000) - 1000, 0, r.Intn(1000)})
	}
	for _, most := range []int{1000, far / 4, far} {
		checkMeasures(t, cutUp(r, most), []int{0, r.Intn(most), -r.Intn(most)})
	}
}

// P17.4
func TestVolumeIsTheSumOfCrossSections(t *testing.T) {
	r := rand.New(rand.NewSource(173))
	for range 200 {
		s := someSolid(r, 6, 6, 1000)
		var places []int
		for _, b := range slices.Concat(s.Boxes, s.Holes) {
			places = append(places, b.Lo.X, b.Hi.X)
		}
		slices.Sort(places)
		sum := 0
		for i := range len(places) - 1 {
			area, _ := solid.Section(s, places[i])
			sum += area * (places[i+1] - places[i])
			if last, _ := solid.Section(s, max(places[i], places[i+1]-1)); places[i] < places[i+1] && last != area {
				t.Errorf("%v: %d at %d, but %d at %d", s, area, places[i], last, places[i+1]-1)
			}
		}
		if v, e := solid.Volume(s); v != sum || e != api.OK {
			t.Errorf("%v: the volume is %d, the sum of the cross-sections %d; %d", s, v, sum, e)
		}
	}
}

// P17.4
func TestPartsLieInTheConcreteAndApart(t *testing.T) {
	r := rand.New(rand.NewSource(174))
	for range 150 {
		s := someSolid(r, 3, 2, 50)
		l, e := solid.Cells(s)
		if e != api.OK {
			t.Fatalf("%v: %d", s, e)
		}
		for i, a := range l {
			if is, _ := solid.Contains(s, a); !is {
				t.Errorf("%v does not contain its part %v", s, a)
			}
			for _, b := range l[:i] {
				if a.Lo.X < b.Hi.X && b.Lo.X < a.Hi.X && a.Lo.Y < b.Hi.Y && b.Lo.Y < a.Hi.Y && a.Lo.Z < b.Hi.Z && b.Lo.Z < a.Hi.Z {
					t.Errorf("%v: the parts %v and %v have inner points in common", s, a, b)
				}
			}
		}
	}
}

// halves returns both halves of a box along an axis.
func halves(b api.Box, axis int) (api.Box, api.Box) {
	first, second := b, b
	ends := [3][2]*int{{&first.Hi.X, &second.Lo.X}, {&first.Hi.Y, &second.Lo.Y}, {&first.Hi.Z, &second.Lo.Z}}[axis]
	middle := (*ends[0] + *ends[1]) / 2
	*ends[0], *ends[1] = middle, middle
	return first, second
}

// P17.4
func TestBoxesAndTheirHalves(t *testing.T) {
	r := rand.New(rand.NewSource(175))
	contained := 0
	for range 4000 {
		s := someSolid(r, 5, 3, 20)
		b := someFlat(r, 20)
		if r.Intn(2) == 0 {
			// A box along the sides of the solid's own boxes is contained more often.
			b = s.Boxes[0]
			b.Hi.Y = b.Lo.Y + r.Intn(b.Hi.Y-b.Lo.Y+1)
		}
		is, _ := solid.Contains(s, b)
		for axis := range 3 {
			first, second := halves(b, axis)
			one, _ := solid.Contains(s, first)
			two, _ := solid.Contains(s, second)
			if is != (one && two) {
				t.Errorf("%v contains %v: %t, but its halves %v: %t, %v: %t", s, b, is, first, one, second, two)
			}
		}
		if !is {
			continue
		}
		contained++
		for range 10 {
			p := at(b.Lo.X+r.Intn(b.Hi.X-b.Lo.X+1), b.Lo.Y+r.Intn(b.Hi.Y-b.Lo.Y+1), b.Lo.Z+r.Intn(b.Hi.Z-b.Lo.Z+1))
			if in, _ := solid.Inside(s, p); !in {
				t.Errorf("%v contains %v, but not its point %v", s, b, p)
			}
		}
	}
	if contained < 500 {
		t.Errorf("only %d boxes are contained", contained)
	}
}

// P17.4
func TestHolesTakeAwayAtMostTheirVolume(t *testing.T) {
	r := rand.New(rand.NewSource(176))
	for range 300 {
		s := someSolid(r, 5, 5, 30)
		before, _ := solid.Volume(s)
		for _, hole := range []api.Box{some(r, 30), some(r, 3)} {
			s.Holes = append(s.Holes, hole)
			after, e := solid.Volume(s)
			if after > before || int64(before-after) > sizeOf(hole).Int64() || e != api.OK {
				t.Errorf("%v: a hole of %v takes away %d, %d", s, sizeOf(hole), before-after, e)
			}
			before = after
		}
	}
}

// P17.4
func TestMovedSolidsHaveTheSameVolume(t *testing.T) {
	r := rand.New(rand.NewSource(177))
	for range 200 {
		s := someSolid(r, 5, 5, 1000)
		by := at(r.Intn(2*far-2000)-far+1000, r.Intn(2*far-2000)-far+1000, r.Intn(2*far-2000)-far+1000)
		there := func(p api.Point) api.Point { return at(p.X+by.X, p.Y+by.Y, p.Z+by.Z) }
		moved := api.Solid{Boxes: slices.Clone(s.Boxes), Holes: slices.Clone(s.Holes)}
		for _, l := range [][]api.Box{moved.Boxes, moved.Holes} {
			for i, b := range l {
				l[i] = api.Box{Lo: there(b.Lo), Hi: there(b.Hi)}
			}
		}
		before, e := solid.Volume(s)
		after, e2 := solid.Volume(moved)
		if before != after || e != api.OK || e2 != api.OK {
			t.Errorf("%v has the volume %d, moved by %v %d; %d, %d", s, before, by, after, e, e2)
		}
	}
}
