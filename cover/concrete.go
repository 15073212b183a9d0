package cover

import (
	"stirrup/api"
	"stirrup/solid"
)

// mostApart bounds how far two points within the limits are apart along an axis.
const mostApart = 2 * api.MaxLength

// growth is how far the corners of a box move for each millimetre by which it grows.
type growth struct{ lo, hi api.Point }

// around is the growth to all sides at once.
var around = growth{lo: api.Point{X: -1, Y: -1, Z: -1}, hi: api.Point{X: 1, Y: 1, Z: 1}}

// directions are the growths to each side alone.
var directions = [6]growth{
	{lo: api.Point{X: -1}}, {hi: api.Point{X: 1}},
	{lo: api.Point{Y: -1}}, {hi: api.Point{Y: 1}},
	{lo: api.Point{Z: -1}}, {hi: api.Point{Z: 1}},
}

// of returns a box that has grown by a number; it may be no valid box any more.
func (g growth) of(b api.Box, by int) api.Box {
	return api.Box{Lo: plus(b.Lo, g.lo, by), Hi: plus(b.Hi, g.hi, by)}
}

// plus returns a point with another one added so many times.
func plus(p, q api.Point, times int) api.Point {
	return api.Point{X: p.X + q.X*times, Y: p.Y + q.Y*times, Z: p.Z + q.Z*times}
}

// concrete tells whether a box is contained in the concrete of a member.
type concrete func(b api.Box) bool

// concreteOf returns the concrete of a valid member.
func concreteOf(m api.Member) concrete {
	return func(b api.Box) bool {
		// A box that is not valid is an error, and is not contained.
		is, _ := solid.Contains(m.Solid, b)
		return is
	}
}

// greatest returns the greatest number from 0 to most by which a core may grow, and is still contained; -1 if there is none.
func (contained concrete) greatest(core api.Box, g growth, most int) int {
	// Among many cores only few have less than the least number so far, so that this is asked first.
	if most < 0 || contained(g.of(core, most)) {
		return most
	}
	lo, hi := -1, most
	for hi-lo > 1 {
		middle := (lo + hi) / 2
		if contained(g.of(core, middle)) {
			lo = middle
		} else {
			hi = middle
		}
	}
	return lo
}

// cover returns the cover of a core, if it is less than most, and otherwise most.
func (contained concrete) cover(core api.Box, most int) int {
	return contained.greatest(core, around, most)
}

// least returns the least cover of several cores, if it is less than most, and otherwise most.
func (contained concrete) least(cores []api.Box, most int) int {
	for _, core := range cores {
		most = contained.cover(core, most)
	}
	return most
}
