package box_test

import (
	"math/rand"
	"slices"
	"testing"

	"stirrup/api"
	"stirrup/box"
)

// eachPoint calls do for all points with whole coordinates in a box.
func eachPoint(b api.Box, do func(p api.Point)) {
	for x := b.Lo.X; x <= b.Hi.X; x++ {
		for y := b.Lo.Y; y <= b.Hi.Y; y++ {
			for z := b.Lo.Z; z <= b.Hi.Z; z++ {
				do(at(x, y, z))
			}
		}
	}
}

func has(b api.Box, p api.Point) bool {
	return b.Lo.X <= p.X && p.X <= b.Hi.X && b.Lo.Y <= p.Y && p.Y <= b.Hi.Y && b.Lo.Z <= p.Z && p.Z <= b.Hi.Z
}

func squared(p, q api.Point) int {
	x, y, z := p.X-q.X, p.Y-q.Y, p.Z-q.Z
	return x*x + y*y + z*z
}

// doubled returns a box with all coordinates twice as great: its whole points stand for those at halves of millimetres.
func doubled(b api.Box) api.Box {
	return from(2*b.Lo.X, 2*b.Lo.Y, 2*b.Lo.Z, 2*b.Hi.X, 2*b.Hi.Y, 2*b.Hi.Z)
}

// some returns a random box with coordinates from -most to most.
func some(r *rand.Rand, most int) api.Box {
	two := func() (int, int) {
		a, b := r.Intn(2*most+1)-most, r.Intn(2*most+1)-most
		return min(a, b), max(a, b)
	}
	var b api.Box
	b.Lo.X, b.Hi.X = two()
	b.Lo.Y, b.Hi.Y = two()
	b.Lo.Z, b.Hi.Z = two()
	return b
}

// gapsOf returns the gaps along the axes, as they are defined.
func gapsOf(a, b api.Box) [3]int {
	return [3]int{
		max(b.Lo.X-a.Hi.X, a.Lo.X-b.Hi.X),
		max(b.Lo.Y-a.Hi.Y, a.Lo.Y-b.Hi.Y),
		max(b.Lo.Z-a.Hi.Z, a.Lo.Z-b.Hi.Z),
	}
}

// checkPair compares what is told of two valid boxes with the definitions, and with one another.
func checkPair(t *testing.T, a, b api.Box) {
	t.Helper()
	gaps := gapsOf(a, b)
	gap, e := box.Gap(a, b)
	if gap != max(gaps[0], gaps[1], gaps[2]) || e != api.OK {
		t.Errorf("%v, %v: the gap is %d, %d", a, b, gap, e)
	}
	square, e := box.Square(a, b)
	want := 0
	for _, g := range gaps {
		want += max(g, 0) * max(g, 0)
	}
	if square != want || e != api.OK {
		t.Errorf("%v, %v: the square is %d, %d", a, b, square, e)
	}
	p, q, e := box.Nearest(a, b)
	if !has(a, p) || !has(b, q) || squared(p, q) != square || e != api.OK {
		t.Errorf("%v, %v: the nearest points are %v, %v, %d", a, b, p, q, e)
	}
	common, e := box.Meet(a, b)
	if (e == api.OK) != (gap <= 0) || e != api.OK && e != api.ErrNone {
		t.Errorf("%v, %v: the gap is %d, but they have %v in common, %d", a, b, gap, common, e)
	}
	// With a point in common both are the least one of the box in common.
	if e == api.OK && (p != common.Lo || q != common.Lo) {
		t.Errorf("%v, %v: the nearest points are %v, %v, with %v in common", a, b, p, q, common)
	}
}

// P9.2, P9.4
func TestNoOtherPointsAreNearer(t *testing.T) {
	r := rand.New(rand.NewSource(91))
	for range 1500 {
		a, b := some(r, 2), some(r, 3)
		checkPair(t, a, b)
		checkPair(t, b, a)
		// Points of doubled boxes may lie at halves; their squared distances are four times as great.
		square, _ := box.Square(a, b)
		p, q, _ := box.Nearest(a, b)
		nearest := squared(p, q)
		least, found := 0, false
		eachPoint(doubled(a), func(p api.Point) {
			to := doubled(b)
			near := at(min(max(p.X, to.Lo.X), to.Hi.X), min(max(p.Y, to.Lo.Y), to.Hi.Y), min(max(p.Z, to.Lo.Z), to.Hi.Z))
			if d := squared(p, near); !found || d < least {
				least, found = d, true
			}
		})
		if 4*square != least || 4*nearest != least {
			t.Errorf("%v, %v: the square is %d, the distance of %v and %v %d, the least one %d quarters", a, b, square, p, q, nearest, least)
		}
	}
}

// P9.2, P9.4
func TestNoOtherPairsAreNearer(t *testing.T) {
	r := rand.New(rand.NewSource(92))
	for range 400 {
		a, b := some(r, 1), some(r, 2)
		square, _ := box.Square(a, b)
		met, least := false, 1<<20
		eachPoint(a, func(p api.Point) {
			eachPoint(b, func(q api.Point) {
				least = min(least, squared(p, q))
				met = met || p == q
			})
		})
		_, e := box.Meet(a, b)
		if square != least || (e == api.OK) != met {
			t.Errorf("%v, %v: the square is %d, the least one %d; %d", a, b, square, least, e)
		}
	}
}

// P9.2, P9.4
func TestPairsUpToTheLimits(t *testing.T) {
	r := rand.New(rand.NewSource(93))
	for range 3000 {
		a, b := some(r, far), some(r, far)
		checkPair(t, a, b)
		checkPair(t, a, a)
		checkPair(t, a, from(a.Hi.X, a.Lo.Y, a.Lo.Z, far, a.Hi.Y, a.Lo.Z))
		checkPair(t, dot(a.Lo.X, a.Lo.Y, a.Lo.Z), dot(b.Hi.X, b.Hi.Y, b.Hi.Z))
	}
}

// P9.1
func TestCommonPoints(t *testing.T) {
	r := rand.New(rand.NewSource(94))
	for range 600 {
		a, b := some(r, 2), some(r, 2)
		common, e := box.Meet(a, b)
		both := 0
		contained, f := box.Contains(a, b)
		all := true
		eachPoint(from(-2, -2, -2, 2, 2, 2), func(p api.Point) {
			if in := has(a, p) && has(b, p); in != (e == api.OK && has(common, p)) {
				t.Errorf("%v, %v have %v in common, %d", a, b, common, e)
			} else if in {
				both++
			}
			all = all && (has(a, p) || !has(b, p))
		})
		if (both == 0) != (e == api.ErrNone) || e != api.OK && common != (api.Box{}) {
			t.Errorf("%v, %v have %v in common, %d, with %d points", a, b, common, e, both)
		}
		if contained != all || f != api.OK {
			t.Errorf("%v contains %v: %t, %d", a, b, contained, f)
		}
	}
}

// P9.1
func TestHullIsLeast(t *testing.T) {
	r := rand.New(rand.NewSource(95))
	for i := range 2000 {
		most := 3
		if i%2 == 0 {
			most = far
		}
		var l []api.Box
		for range 1 + r.Intn(6) {
			l = append(l, some(r, most))
		}
		given := slices.Clone(l)
		hull, e := box.Hull(l)
		if e != api.OK || !slices.Equal(l, given) {
			t.Fatalf("the hull of %v is %v, %d", given, hull, e)
		}
		var touched [6]bool
		for _, b := range l {
			if is, e := box.Contains(hull, b); !is || e != api.OK {
				t.Errorf("the hull %v of %v does not contain %v", hull, l, b)
			}
			for side, same := range [6]bool{
				b.Lo.X == hull.Lo.X, b.Lo.Y == hull.Lo.Y, b.Lo.Z == hull.Lo.Z,
				b.Hi.X == hull.Hi.X, b.Hi.Y == hull.Hi.Y, b.Hi.Z == hull.Hi.Z,
			} {
				touched[side] = touched[side] || same
			}
		}
		// A lesser box would leave out what touches a side.
		if touched != [6]bool{true, true, true, true, true, true} {
			t.Errorf("the hull %v of %v is not the least box", hull, l)
		}
	}
}

// P9.1, P9.4
func TestGrownComesNearer(t *testing.T) {
	r := rand.New(rand.NewSource(96))
	for i := range 3000 {
		most := 20
		if i%2 == 0 {
			most = far / 2
		}
		a, b, by := some(r, most), some(r, most), r.Intn(most+1)
		grown, e := box.Grown(a, by)
		if e != api.OK {
			t.Fatalf("%v grown by %d: %d", a, by, e)
		}
		before, after := gapsOf(a, b), gapsOf(grown, b)
		for axis := range before {
			if after[axis] != before[axis]-by {
				t.Errorf("%v, %v: grown by %d, the gaps %v become %v", a, b, by, before, after)
			}
		}
		gap, _ := box.Gap(a, b)
		if nearer, e := box.Gap(grown, b); nearer != gap-by || e != api.OK {
			t.Errorf("%v, %v: grown by %d, the gap %d becomes %d, %d", a, b, by, gap, nearer, e)
		}
		if is, e := box.Contains(grown, a); !is || e != api.OK {
			t.Errorf("%v grown by %d is %v", a, by, grown)
		}
	}
}

// P9.3
func TestCoversEachPoint(t *testing.T) {
	r := rand.New(rand.NewSource(97))
	counts := map[bool]int{}
	for range 6000 {
		var l []api.Box
		for range r.Intn(9) {
			l = append(l, some(r, 3))
		}
		checkCovers(t, l, some(r, 1), counts)
		checkCovers(t, l, some(r, 2), counts)
	}
	if counts[true] < 500 || counts[false] < 500 {
		t.Errorf("too few of a kind: %v", counts)
	}
}

// checkCovers compares with all points at halves of millimetres: of these, one is in each part between whole coordinates.
func checkCovers(t *testing.T, l []api.Box, b api.Box, counts map[bool]int) {
	t.Helper()
	given := slices.Clone(l)
	want := true
	eachPoint(doubled(b), func(p api.Point) {
		want = want && slices.ContainsFunc(l, func(other api.Box) bool { return has(doubled(other), p) })
	})
	if is, e := box.Covers(l, b); is != want || e != api.OK || !slices.Equal(l, given) {
		t.Errorf("%v cover %v: %t, %d", given, b, is, e)
	}
	counts[want]++
}

// P9.3: all lists of up to three intervals, along each axis, and each with others across it.
func TestCoversAlongAnAxis(t *testing.T) {
	var intervals [][2]int
	for lo := range 5 {
		for hi := lo; hi < 5; hi++ {
			intervals = append(intervals, [2]int{lo, hi})
		}
	}
	boxes := func(list [][2]int, axis int) []api.Box {
		var l []api.Box
		for _, i := range list {
			b := from(-1, -1, -1, 1, 1, 1)
			switch axis {
			case 0:
				b.Lo.X, b.Hi.X = i[0], i[1]
			case 1:
				b.Lo.Y, b.Hi.Y = i[0], i[1]
			default:
				b.Lo.Z, b.Hi.Z = i[0], i[1]
			}
			l = append(l, b)
		}
		return l
	}
	covered := func(list [][2]int, whole [2]int) bool {
		for half := 2 * whole[0]; half <= 2*whole[1]; half++ {
			if !slices.ContainsFunc(list, func(i [2]int) bool { return 2*i[0] <= half && half <= 2*i[1] }) {
				return false
			}
		}
		return true
	}
	var check func(list [][2]int)
	check = func(list [][2]int) {
		for _, whole := range intervals {
			for axis := range 3 {
				is, e := box.Covers(boxes(list, axis), boxes([][2]int{whole}, axis)[0])
				if is != covered(list, whole) || e != api.OK {
					t.Errorf("along %d, %v cover %v: %t, %d", axis, list, whole, is, e)
				}
			}
		}
		if len(list) < 3 {
			for _, i := range intervals {
				check(append(slices.Clone(list), i))
			}
		}
	}
	check(nil)
}

// eachCut calls do for all pairs of boxes into which a box can be cut at a whole coordinate.
func eachCut(b api.Box, do func(left, right api.Box)) {
	each := func(lo, hi int, cut func(left, right *api.Box, place int)) {
		for place := lo; place <= hi; place++ {
			left, right := b, b
			cut(&left, &right, place)
			do(left, right)
		}
	}
	each(b.Lo.X, b.Hi.X, func(left, right *api.Box, place int) { left.Hi.X, right.Lo.X = place, place })
	each(b.Lo.Y, b.Hi.Y, func(left, right *api.Box, place int) { left.Hi.Y, right.Lo.Y = place, place })
	each(b.Lo.Z, b.Hi.Z, func(left, right *api.Box, place int) { left.Hi.Z, right.Lo.Z = place, place })
}

// P9.4
func TestCoversBothHalves(t *testing.T) {
	r := rand.New(rand.NewSource(98))
	for range 1000 {
		var l []api.Box
		for range 3 + r.Intn(20) {
			l = append(l, some(r, 8))
		}
		b := some(r, 5)
		is, e := box.Covers(l, b)
		if e != api.OK {
			t.Fatal(e)
		}
		eachCut(b, func(left, right api.Box) {
			one, e := box.Covers(l, left)
			two, f := box.Covers(l, right)
			if is != (one && two) || e != api.OK || f != api.OK {
				t.Errorf("%v cover %v: %t, %v: %t, %v: %t", l, b, is, left, one, right, two)
			}
		})
		if is, e := box.Covers(append(l, b), b); !is || e != api.OK {
			t.Errorf("%v and %v do not cover the latter", l, b)
		}
	}
}

// filled returns as many boxes as there may be, into which the whole one is cut again and again.
func filled(r *rand.Rand) []api.Box {
	l := []api.Box{whole}
	for len(l) < 2*api.MaxBoxes {
		i := r.Intn(len(l))
		left, right := l[i], l[i]
		switch r.Intn(3) {
		case 0:
			right.Lo.X += (right.Hi.X - right.Lo.X) * r.Intn(100) / 100
			left.Hi.X = right.Lo.X
		case 1:
			right.Lo.Y += (right.Hi.Y - right.Lo.Y) * r.Intn(100) / 100
			left.Hi.Y = right.Lo.Y
		default:
			right.Lo.Z += (right.Hi.Z - right.Lo.Z) * r.Intn(100) / 100
			left.Hi.Z = right.Lo.Z
		}
		l[i] = left
		l = append(l, right)
	}
	return l
}

// P9.3: each of the boxes into which a whole one is cut is needed, if it has a width in each direction.
func TestCoversUpToTheLimits(t *testing.T) {
	r := rand.New(rand.NewSource(99))
	for range 10 {
		l := filled(r)
		if is, e := box.Covers(l, whole); !is || e != api.OK {
			t.Fatalf("%v do not cover the whole: %d", l, e)
		}
		for i, b := range l {
			wide := b.Lo.X < b.Hi.X && b.Lo.Y < b.Hi.Y && b.Lo.Z < b.Hi.Z
			rest := slices.Delete(slices.Clone(l), i, i+1)
			if is, e := box.Covers(rest, whole); is == wide || e != api.OK {
				t.Errorf("without %v the others cover the whole: %t, %d", b, is, e)
			}
			shorter := slices.Clone(l)
			shorter[i].Hi.X = max(b.Lo.X, b.Hi.X-1)
			if is, e := box.Covers(shorter, whole); is == wide || e != api.OK {
				t.Errorf("with a shorter %v they cover the whole: %t, %d", b, is, e)
			}
		}
	}
}
