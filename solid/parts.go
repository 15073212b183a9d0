package solid

import (
	"iter"
	"slices"

	"stirrup/api"
)

// set is a set of boxes of a list: the bits of their numbers in it.
type set uint32

// stretch is what lies between two neighbouring cuts along an axis, with the boxes and holes that take up all of it.
type stretch struct {
	lo, hi       int
	boxes, holes set
}

// parts yields the parts of a valid solid, in their order. All sides are cuts, so that each box, and each hole, has all
// of a piece between cuts, or no inner point of it.
func parts(s api.Solid) iter.Seq[api.Box] {
	return func(yield func(api.Box) bool) {
		along := cut(s)
		for _, x := range along[0] {
			for _, y := range along[1] {
				for _, z := range along[2] {
					if x.boxes&y.boxes&z.boxes == 0 || x.holes&y.holes&z.holes != 0 {
						continue
					}
					part := api.Box{Lo: api.Point{X: x.lo, Y: y.lo, Z: z.lo}, Hi: api.Point{X: x.hi, Y: y.hi, Z: z.hi}}
					if !yield(part) {
						return
					}
				}
			}
		}
	}
}

// cut returns the stretches along each axis between all cuts. Those outside of the hull of the boxes are in none of them.
func cut(s api.Solid) [3][]stretch {
	var along [3][]stretch
	for axis := range along {
		places := cuts(s, axis)
		for i := range len(places) - 1 {
			lo, hi := places[i], places[i+1]
			along[axis] = append(along[axis], stretch{
				lo: lo, hi: hi, boxes: taking(s.Boxes, axis, lo, hi), holes: taking(s.Holes, axis, lo, hi),
			})
		}
	}
	return along
}

// cuts returns the places of all sides of boxes and holes along an axis.
func cuts(s api.Solid, axis int) []int {
	var places []int
	for _, list := range [2][]api.Box{s.Boxes, s.Holes} {
		for _, b := range list {
			places = append(places, coordinates(b.Lo)[axis], coordinates(b.Hi)[axis])
		}
	}
	slices.Sort(places)
	return slices.Compact(places)
}

// taking returns which boxes of a list take up all between two places along an axis.
func taking(l []api.Box, axis, lo, hi int) set {
	var found set
	for i, b := range l {
		if coordinates(b.Lo)[axis] <= lo && hi <= coordinates(b.Hi)[axis] {
			found |= 1 << i
		}
	}
	return found
}

func coordinates(p api.Point) [3]int { return [3]int{p.X, p.Y, p.Z} }
