package box

import (
	"slices"

	"stirrup/api"
)

// set is a set of boxes of a list: the bits of their numbers in it.
type set uint64

// covers reports whether at most 64 boxes cover a box. This one is cut along all their sides, so that each of them
// contains a part of it as a whole, or none of its inner points.
func covers(l []api.Box, b api.Box) bool {
	along := holders(l, b)
	for _, x := range along[0] {
		for _, y := range along[1] {
			for _, z := range along[2] {
				if x&y&z == 0 {
					return false
				}
			}
		}
	}
	return true
}

// holders returns, for each axis and each part of a box along it, which boxes of the list contain the part along it.
func holders(l []api.Box, b api.Box) [3][]set {
	list := make([][3]side, 0, len(l))
	for _, other := range l {
		list = append(list, sides(other))
	}
	var all [3][]set
	for axis, whole := range sides(b) {
		others := make([]side, 0, len(l))
		for _, other := range list {
			others = append(others, other[axis])
		}
		for _, part := range whole.cut(others) {
			all[axis] = append(all[axis], holding(others, part))
		}
	}
	return all
}

// holding returns the set of those sides that contain a part.
func holding(others []side, part side) set {
	var holders set
	for i, other := range others {
		if other.contains(part) {
			holders |= 1 << i
		}
	}
	return holders
}

// cut returns the parts of a side between the ends of others; a side without a width is its only part.
func (s side) cut(others []side) []side {
	if s.lo == s.hi {
		return []side{s}
	}
	ends := []int{s.lo, s.hi}
	for _, other := range others {
		for _, end := range [2]int{other.lo, other.hi} {
			if s.lo < end && end < s.hi {
				ends = append(ends, end)
			}
		}
	}
	slices.Sort(ends)
	ends = slices.Compact(ends)
	parts := make([]side, 0, len(ends))
	for i := range len(ends) - 1 {
		parts = append(parts, side{lo: ends[i], hi: ends[i+1]})
	}
	return parts
}
