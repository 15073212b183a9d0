package frame_test

import (
	"math/rand"
	"slices"
	"testing"

	"stirrup/api"
	"stirrup/frame"
)

// matrix has, row by row, what a turn makes of coordinates.
type matrix [3][3]int

// matrixOf returns the matrix of a turn: the first columns have the images of X and Y, and the last one has the only axis
// with which the determinant is 1.
func matrixOf(t api.Turn) matrix {
	var m matrix
	set := func(column, axis int) {
		if axis > 0 {
			m[axis-1][column] = 1
		} else {
			m[-axis-1][column] = -1
		}
	}
	set(0, t.X)
	set(1, t.Y)
	for _, axis := range []int{-3, -2, -1, 1, 2, 3} {
		old := m
		set(2, axis)
		if m.determinant() == 1 {
			return m
		}
		m = old
	}
	panic("no axis turns space")
}

func (m matrix) determinant() int {
	sum := 0
	for i := range 3 {
		sum += m[0][i] * (m[1][(i+1)%3]*m[2][(i+2)%3] - m[1][(i+2)%3]*m[2][(i+1)%3])
	}
	return sum
}

// times returns the matrix of n, and then m.
func (m matrix) times(n matrix) matrix {
	var product matrix
	for i := range 3 {
		for j := range 3 {
			for k := range 3 {
				product[i][j] += m[i][k] * n[k][j]
			}
		}
	}
	return product
}

// of returns the image of a point, moved by another one.
func (m matrix) of(p, by api.Point) api.Point {
	var l [3]int
	for i := range l {
		l[i] = m[i][0]*p.X + m[i][1]*p.Y + m[i][2]*p.Z
	}
	return at(l[0]+by.X, l[1]+by.Y, l[2]+by.Z)
}

// boxOf returns the least box with all points of a list.
func boxOf(l []api.Point) api.Box {
	b := api.Box{Lo: l[0], Hi: l[0]}
	for _, p := range l {
		b.Lo = at(min(b.Lo.X, p.X), min(b.Lo.Y, p.Y), min(b.Lo.Z, p.Z))
		b.Hi = at(max(b.Hi.X, p.X), max(b.Hi.Y, p.Y), max(b.Hi.Z, p.Z))
	}
	return b
}

func corners(b api.Box) []api.Point {
	var l []api.Point
	for _, x := range []int{b.Lo.X, b.Hi.X} {
		for _, y := range []int{b.Lo.Y, b.Hi.Y} {
			for _, z := range []int{b.Lo.Z, b.Hi.Z} {
				l = append(l, at(x, y, z))
			}
		}
	}
	return l
}

// somePoint returns a random point with coordinates up to a limit that is itself a random one.
func somePoint(r *rand.Rand) api.Point {
	most := 1 << r.Intn(21)
	one := func() int { return r.Intn(2*most+1) - most }
	return at(one(), one(), one())
}

func volume(b api.Box) int { return (b.Hi.X - b.Lo.X) * (b.Hi.Y - b.Lo.Y) * (b.Hi.Z - b.Lo.Z) }

func minus(p, q api.Point) api.Point { return at(p.X-q.X, p.Y-q.Y, p.Z-q.Z) }

func square(p api.Point) int { return p.X*p.X + p.Y*p.Y + p.Z*p.Z }

// sense returns the volume that three directions span, with a sign for the sense of rotation.
func sense(p, q, r api.Point) int {
	return matrix{{p.X, p.Y, p.Z}, {q.X, q.Y, q.Z}, {r.X, r.Y, r.Z}}.determinant()
}

// apply returns the image of a point that is near.
func apply(t *testing.T, u api.Turn, p api.Point) api.Point {
	t.Helper()
	image, e := frame.Apply(u, p)
	if e != api.OK {
		t.Fatalf("%v does not map %v: %d", u, p, e)
	}
	return image
}

// then returns the turn b after a.
func then(t *testing.T, a, b api.Turn) api.Turn {
	t.Helper()
	both, e := frame.Then(a, b)
	if e != api.OK {
		t.Fatalf("there is no turn %v after %v: %d", b, a, e)
	}
	return both
}

// P15.1, P15.4: each turn is there once, and no two of them do the same.
func TestEachTurnOnce(t *testing.T) {
	seen := map[matrix]bool{}
	for _, u := range frame.All() {
		seen[matrixOf(u)] = true
	}
	if n := len(frame.All()); n != 24 || len(seen) != 24 {
		t.Errorf("there are %d turns, of which %d differ", n, len(seen))
	}
	images := map[api.Point]bool{}
	for _, u := range frame.All() {
		images[apply(t, u, at(1, 2, 3))] = true
	}
	if len(images) != 24 {
		t.Errorf("a point has %d images", len(images))
	}
}

// P15.1, P15.2, P15.4
func TestTurnsAreMatrices(t *testing.T) {
	r := rand.New(rand.NewSource(151))
	points := edges()
	for range 200 {
		points = append(points, somePoint(r))
	}
	for _, a := range frame.All() {
		for _, p := range points {
			if image := apply(t, a, p); image != matrixOf(a).of(p, at(0, 0, 0)) {
				t.Errorf("%v maps %v to %v", a, p, image)
			}
		}
		for _, b := range frame.All() {
			both := then(t, a, b)
			if matrixOf(both) != matrixOf(b).times(matrixOf(a)) {
				t.Errorf("%v after %v is %v", b, a, both)
			}
			for _, p := range points[:60] {
				if apply(t, both, p) != apply(t, b, apply(t, a, p)) {
					t.Errorf("%v after %v maps %v not as they do", b, a, p)
				}
			}
		}
	}
}

// P15.1, P15.4: turns are a group.
func TestGroup(t *testing.T) {
	none := turn(1, 2)
	for _, a := range frame.All() {
		back, e := frame.Back(a)
		if e != api.OK || then(t, a, back) != none || then(t, back, a) != none {
			t.Errorf("the turn back of %v is %v, %d", a, back, e)
		}
		if again, e := frame.Back(back); again != a || e != api.OK {
			t.Errorf("the turn back of that back of %v is %v, %d", a, again, e)
		}
		if then(t, a, none) != a || then(t, none, a) != a {
			t.Errorf("%v is another turn with one that leaves all as it is", a)
		}
		for _, b := range frame.All() {
			for _, c := range frame.All() {
				if then(t, then(t, a, b), c) != then(t, a, then(t, b, c)) {
					t.Errorf("%v, %v, and %v differ in groups", a, b, c)
				}
			}
		}
	}
}

// P15.2, P15.4
func TestDistancesAndSense(t *testing.T) {
	r := rand.New(rand.NewSource(152))
	for range 500 {
		p, q := somePoint(r), somePoint(r)
		// Of greater numbers the volume would fit no integer.
		var l [3]api.Point
		for i := range l {
			l[i] = at(r.Intn(200)-100, r.Intn(200)-100, r.Intn(200)-100)
		}
		for _, u := range frame.All() {
			if square(minus(apply(t, u, p), apply(t, u, q))) != square(minus(p, q)) {
				t.Errorf("%v changes the distance of %v and %v", u, p, q)
			}
			if sense(apply(t, u, l[0]), apply(t, u, l[1]), apply(t, u, l[2])) != sense(l[0], l[1], l[2]) {
				t.Errorf("%v changes the sense of %v", u, l)
			}
			back, _ := frame.Back(u)
			if apply(t, back, apply(t, u, p)) != p || apply(t, u, apply(t, back, p)) != p {
				t.Errorf("%v and %v do not leave %v where it was", u, back, p)
			}
		}
	}
}

// P15.3, P15.4
func TestPathsAreImages(t *testing.T) {
	r := rand.New(rand.NewSource(153))
	for range 300 {
		by := somePoint(r)
		var l []api.Point
		for range r.Intn(30) {
			l = append(l, somePoint(r))
		}
		before := slices.Clone(l)
		for _, u := range frame.All() {
			var want []api.Point
			for _, p := range l {
				want = append(want, matrixOf(u).of(p, by))
			}
			path, e := frame.Path(u, by, l)
			if !slices.Equal(path, want) || e != api.OK {
				t.Errorf("%v maps %v, moved by %v, to %v, %d", u, l, by, path, e)
			}
			for i := range path {
				path[i] = at(5, 5, 5)
			}
			if !slices.Equal(l, before) {
				t.Fatalf("the argument was changed to %v", l)
			}
		}
	}
}

// checkBox compares the image of a box with the images of its corners.
func checkBox(t *testing.T, u api.Turn, by api.Point, b api.Box) api.Box {
	t.Helper()
	var l []api.Point
	for _, p := range corners(b) {
		l = append(l, matrixOf(u).of(p, by))
	}
	image, e := frame.Box(u, by, b)
	if image != boxOf(l) || e != api.OK {
		t.Errorf("%v maps %v, moved by %v, to %v, %d", u, b, by, image, e)
	}
	if volume(image) != volume(b) {
		t.Errorf("%v has the volume %d, its image %d", b, volume(b), volume(image))
	}
	return image
}

// P15.3, P15.4
func TestBoxesUpToTheLimits(t *testing.T) {
	r := rand.New(rand.NewSource(154))
	for i := range 500 {
		b := boxOf([]api.Point{somePoint(r), somePoint(r)})
		by := somePoint(r)
		if i == 0 {
			b = boxOf(edges())
		}
		for _, u := range frame.All() {
			image := checkBox(t, u, by, b)
			// With the turn back, and the images moved back, the box is there again.
			back, _ := frame.Back(u)
			if unmoved, _ := frame.Box(u, at(0, 0, 0), b); checkBox(t, back, at(0, 0, 0), unmoved) != b {
				t.Errorf("%v and %v do not leave %v where it was; %v", u, back, b, image)
			}
		}
	}
}

// P15.4: the image of a box has the images of its points, and no other ones.
func TestPointsOfBoxes(t *testing.T) {
	r := rand.New(rand.NewSource(155))
	points := func(b api.Box) map[api.Point]bool {
		l := map[api.Point]bool{}
		for x := b.Lo.X; x <= b.Hi.X; x++ {
			for y := b.Lo.Y; y <= b.Hi.Y; y++ {
				for z := b.Lo.Z; z <= b.Hi.Z; z++ {
					l[at(x, y, z)] = true
				}
			}
		}
		return l
	}
	for range 40 {
		one := func() api.Point { return at(r.Intn(9)-4, r.Intn(9)-4, r.Intn(9)-4) }
		b, by := boxOf([]api.Point{one(), one()}), one()
		for _, u := range frame.All() {
			image, e := frame.Box(u, by, b)
			images := points(image)
			if len(images) != len(points(b)) || e != api.OK {
				t.Errorf("%v has %d points, its image %d; %d", b, len(points(b)), len(images), e)
			}
			for p := range points(b) {
				l, _ := frame.Path(u, by, []api.Point{p})
				if len(l) != 1 || !images[l[0]] {
					t.Errorf("%v, with the image %v, has %v, but not its image %v", b, image, p, l)
				}
			}
		}
	}
}
