package frame

import "stirrup/api"

// lastAxis is the axis of the direction of Z.
const lastAxis = 3

// unturned returns the turn that leaves each point where it is.
func unturned() api.Turn { return api.Turn{X: 1, Y: 2} }

func isAxis(n int) bool { return -lastAxis <= n && n <= lastAxis && n != 0 }

// unit returns an axis as a point with one coordinate 1 or -1.
func unit(axis int) api.Point {
	switch axis {
	case 1, -1:
		return api.Point{X: axis}
	case 2, -2:
		return api.Point{Y: axis / 2}
	}
	return api.Point{Z: axis / lastAxis}
}

// axisOf returns the axis whose unit is a point.
func axisOf(p api.Point) int { return p.X + 2*p.Y + lastAxis*p.Z }

// image returns the sum of the images of the three directions, each times the coordinate of a point.
func image(t api.Turn, p api.Point) api.Point {
	x, y := unit(t.X), unit(t.Y)
	return sum(times(x, p.X), times(y, p.Y), times(cross(x, y), p.Z))
}

// after returns the turn b after a.
func after(a, b api.Turn) api.Turn {
	return api.Turn{X: axisOf(image(b, unit(a.X))), Y: axisOf(image(b, unit(a.Y)))}
}

func sum(l ...api.Point) api.Point {
	total := api.Point{}
	for _, p := range l {
		total = api.Point{X: total.X + p.X, Y: total.Y + p.Y, Z: total.Z + p.Z}
	}
	return total
}

func times(p api.Point, n int) api.Point { return api.Point{X: p.X * n, Y: p.Y * n, Z: p.Z * n} }

func cross(p, q api.Point) api.Point {
	return api.Point{X: p.Y*q.Z - p.Z*q.Y, Y: p.Z*q.X - p.X*q.Z, Z: p.X*q.Y - p.Y*q.X}
}

// least returns the lesser one of two points in each coordinate.
func least(p, q api.Point) api.Point {
	return api.Point{X: min(p.X, q.X), Y: min(p.Y, q.Y), Z: min(p.Z, q.Z)}
}

// greatest returns the greater one of two points in each coordinate.
func greatest(p, q api.Point) api.Point {
	return api.Point{X: max(p.X, q.X), Y: max(p.Y, q.Y), Z: max(p.Z, q.Z)}
}

// far reports whether a point is not near.
func far(p api.Point) bool {
	limit := api.Point{X: api.MaxLength, Y: api.MaxLength, Z: api.MaxLength}
	return least(p, limit) != p || greatest(p, times(limit, -1)) != p
}
