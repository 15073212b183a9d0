package box

import "stirrup/api"

// coordinates returns where the coordinates of a point stand, so that they can be read and written by their axes.
func coordinates(p *api.Point) [3]*int { return [3]*int{&p.X, &p.Y, &p.Z} }

// side is what a box takes up along an axis.
type side struct{ lo, hi int }

// sides returns what a box takes up along each axis.
func sides(b api.Box) [3]side {
	var list [3]side
	lo, hi := coordinates(&b.Lo), coordinates(&b.Hi)
	for axis := range list {
		list[axis] = side{lo: *lo[axis], hi: *hi[axis]}
	}
	return list
}

// boxOf returns the box that takes up the sides along the axes.
func boxOf(list [3]side) api.Box {
	var b api.Box
	lo, hi := coordinates(&b.Lo), coordinates(&b.Hi)
	for axis, s := range list {
		*lo[axis], *hi[axis] = s.lo, s.hi
	}
	return b
}

// gaps returns the gaps of two boxes along each axis.
func gaps(a, b api.Box) [3]int {
	var list [3]int
	first, second := sides(a), sides(b)
	for axis := range list {
		list[axis] = first[axis].gap(second[axis])
	}
	return list
}

// combined returns the box whose sides are combined of those of two boxes.
func combined(a, b api.Box, combine func(s, t side) side) api.Box {
	list, second := sides(a), sides(b)
	for axis := range list {
		list[axis] = combine(list[axis], second[axis])
	}
	return boxOf(list)
}

func (s side) valid() bool { return -api.MaxLength <= s.lo && s.lo <= s.hi && s.hi <= api.MaxLength }

func (s side) gap(t side) int { return max(t.lo-s.hi, s.lo-t.hi) }

// nearest returns the coordinates of the nearest points, that of s first.
func (s side) nearest(t side) (int, int) {
	switch {
	case s.hi < t.lo:
		return s.hi, t.lo
	case t.hi < s.lo:
		return s.lo, t.hi
	}
	common := max(s.lo, t.lo)
	return common, common
}

func (s side) grown(by int) side { return side{lo: s.lo - by, hi: s.hi + by} }

func (s side) hull(t side) side { return side{lo: min(s.lo, t.lo), hi: max(s.hi, t.hi)} }

func (s side) meet(t side) side { return side{lo: max(s.lo, t.lo), hi: min(s.hi, t.hi)} }

func (s side) contains(t side) bool { return s.lo <= t.lo && t.hi <= s.hi }
