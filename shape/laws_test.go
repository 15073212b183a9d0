package shape_test

import (
	"math/rand"
	"slices"
	"testing"

	"stirrup/api"
	"stirrup/shape"
)

// randomDims returns dimensions whose sum is at most a number that is not less than how many they are.
func randomDims(r *rand.Rand, n, most int) []int {
	dims := make([]int, n)
	for i := range dims {
		left := most - sum(dims) - (n - 1 - i)
		dims[i] = 1 + r.Intn(min(left, 1+r.Intn(1<<r.Intn(19))))
	}
	r.Shuffle(n, func(i, j int) { dims[i], dims[j] = dims[j], dims[i] })
	return dims
}

// each calls a function for random bars of all codes, with the words of their codes.
func each(seed int64, most int, do func(r *rand.Rand, b api.Bar, words string)) {
	r := rand.New(rand.NewSource(seed))
	for range 3000 {
		for _, row := range catalogue {
			do(r, bar(row.code, randomDims(r, row.dims, most)...), row.legs)
		}
	}
}

// randomDiffering returns a bar that differs from b in some of its fields, or in none.
func randomDiffering(r *rand.Rand, b api.Bar) api.Bar {
	b.Dims = slices.Clone(b.Dims)
	if r.Intn(2) == 0 {
		b.Mark = []string{"m1", "m2", "n"}[r.Intn(3)]
	}
	if r.Intn(2) == 0 {
		b.Count = 1 + r.Intn(api.MaxCount)
	}
	if r.Intn(4) == 0 {
		b.Size = []int{6, 10, 12, 40}[r.Intn(4)]
	}
	if r.Intn(4) == 0 {
		row := catalogue[r.Intn(len(catalogue))]
		if row.dims == len(b.Dims) {
			b.Code = row.code
		}
	}
	if r.Intn(4) == 0 {
		b.Dims[r.Intn(len(b.Dims))] = 1 + r.Intn(4)
	}
	return b
}

// path returns the path of a bar that is valid.
func path(t *testing.T, b api.Bar) []api.Point {
	t.Helper()
	l, e := shape.Path(b)
	if e != api.OK {
		t.Fatalf("%+v has no path, %d", b, e)
	}
	return l
}

// P12.2: legs, paths, and boxes are those of the words of the chapter.
func TestAllShapes(t *testing.T) {
	each(121, together, func(_ *rand.Rand, b api.Bar, words string) {
		legs, points := pathOf(words, b.Dims)
		checkPath(t, b, legs, points, boxOf(points))
	})
}

// P12.2: of small dimensions there are all.
func TestSmallDims(t *testing.T) {
	for _, row := range catalogue {
		dims := slices.Repeat([]int{1}, row.dims)
		for i := 0; i < row.dims; {
			legs, points := pathOf(row.legs, dims)
			checkPath(t, bar(row.code, dims...), legs, points, boxOf(points))
			for i = 0; i < row.dims && dims[i] == 4; i++ {
				dims[i] = 1
			}
			if i < row.dims {
				dims[i]++
			}
		}
	}
}

// P12.3: bars have the same shape if their sizes, codes, and dimensions are equal.
func TestSomeAreSame(t *testing.T) {
	count := 0
	each(122, 40, func(r *rand.Rand, a api.Bar, _ string) {
		b := randomDiffering(r, a)
		want := a.Size == b.Size && a.Code == b.Code && slices.Equal(a.Dims, b.Dims)
		if want {
			count++
		}
		if is, e := shape.Same(a, b); is != want || e != api.OK {
			t.Errorf("%+v and %+v have the same shape: %v, %d", a, b, is, e)
		}
	})
	if count < 1000 {
		t.Errorf("only %d pairs have the same shape", count)
	}
}

// way returns the axis of a leg, its length with the sign of its direction, and whether it is parallel to an axis.
func way(p, q api.Point) (axis, length int, parallel bool) {
	count := 0
	for i, off := range [3]int{q.X - p.X, q.Y - p.Y, q.Z - p.Z} {
		if off != 0 {
			axis, length, count = i, off, count+1
		}
	}
	return axis, length, count == 1
}

// P12.4: each leg is parallel to an axis, as long as it has to be, and not parallel to the next one; a path has a point
// more than legs.
func TestLegsAreParallelToAxes(t *testing.T) {
	each(123, together, func(_ *rand.Rand, b api.Bar, _ string) {
		points := path(t, b)
		legs, e := shape.Legs(b)
		if e != api.OK || len(points) != len(legs)+1 || len(legs) > api.MaxLegs || points[0] != (api.Point{}) || sum(legs) > api.MaxLength {
			t.Errorf("%+v has the legs %v, %d, and the path %v", b, legs, e, points)
		}
		before := -1
		for i, leg := range legs {
			axis, length, parallel := way(points[i], points[i+1])
			if !parallel || axis == before || max(length, -length) != leg {
				t.Errorf("leg %d of %+v is from %v to %v", i, b, points[i], points[i+1])
			}
			before = axis
		}
	})
}

// P12.4: a link ends beside its beginning.
func TestLinksEnd(t *testing.T) {
	r := rand.New(rand.NewSource(124))
	for range 10000 {
		b := bar(api.Link, randomDims(r, 3, together)...)
		points := path(t, b)
		if end := points[len(points)-1]; end != (api.Point{X: b.Dims[2], Y: -b.Dims[2]}) {
			t.Errorf("%+v ends at %v", b, end)
		}
	}
}

// P12.4: dimensions that are multiplied multiply all points.
func TestMultiplied(t *testing.T) {
	each(125, 1000, func(r *rand.Rand, b api.Bar, _ string) {
		by := 1 + r.Intn(together/sum(b.Dims))
		large := bar(b.Code, b.Dims...)
		large.Dims = nil
		for _, length := range b.Dims {
			large.Dims = append(large.Dims, by*length)
		}
		points := path(t, large)
		for i, p := range path(t, b) {
			if points[i] != (api.Point{X: by * p.X, Y: by * p.Y, Z: by * p.Z}) {
				t.Errorf("%+v has at %d the point %v, and %d times as large %v", b, i, p, by, points[i])
			}
		}
	})
}

// P12.4: marks and counts do not matter for paths; nor do sizes.
func TestMarksDoNotMatter(t *testing.T) {
	each(126, together, func(r *rand.Rand, b api.Bar, _ string) {
		other := randomDiffering(r, b)
		other.Code, other.Dims = b.Code, b.Dims
		if is, of := path(t, other), path(t, b); !slices.Equal(is, of) {
			t.Errorf("%+v has the path %v, and %+v %v", b, of, other, is)
		}
	})
}

// P12.4: the box contains the path, and touches it on all sides.
func TestBoxesTouch(t *testing.T) {
	each(127, together, func(_ *rand.Rand, b api.Bar, _ string) {
		hull, e := shape.Box(b)
		touched := [6]bool{}
		for _, p := range path(t, b) {
			for axis, is := range [3][3]int{{hull.Lo.X, p.X, hull.Hi.X}, {hull.Lo.Y, p.Y, hull.Hi.Y}, {hull.Lo.Z, p.Z, hull.Hi.Z}} {
				if is[1] < is[0] || is[1] > is[2] {
					t.Errorf("%+v has %v outside the box %v", b, p, hull)
				}
				touched[2*axis] = touched[2*axis] || is[1] == is[0]
				touched[2*axis+1] = touched[2*axis+1] || is[1] == is[2]
			}
		}
		if touched != [6]bool{true, true, true, true, true, true} || e != api.OK {
			t.Errorf("%+v has the box %v, %d, which its path touches: %v", b, hull, e, touched)
		}
	})
}
