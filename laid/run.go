package laid

import (
	"iter"
	"slices"

	"stirrup/api"
	"stirrup/box"
	"stirrup/frame"
	"stirrup/shape"
)

// mostApart bounds how far two points within the limits are apart along an axis.
const mostApart = 2 * api.MaxLength

// path is that of a laid bar, with its mark.
type path struct {
	mark   string
	points []api.Point
}

// first returns the path of the first bar of a run.
func first(bar api.Bar, run api.Run) (path, api.Errno) {
	l, e := shape.Path(bar)
	if e != api.OK {
		return path{}, e
	}
	l, e = frame.Path(run.Turn, run.At, l)
	return path{mark: run.Mark, points: l}, e
}

// move adds a step to all points, in place, as new points for each laid bar would take most of the time.
func (l path) move(step api.Point) {
	for i, p := range l.points {
		l.points[i] = plus(p, step)
	}
}

// near reports whether all points are within the limits.
func (l path) near() bool {
	return !slices.ContainsFunc(l.points, func(p api.Point) bool { return !within(p, api.MaxLength) })
}

// paths yields the numbers and the paths of the laid bars of valid runs. The points of a path are those of its bar only
// until the next one is yielded.
func paths(bars []api.Bar, runs []api.Run) iter.Seq2[int, path] {
	return func(yield func(int, path) bool) {
		byMark := marked(bars)
		number := 0
		for _, run := range runs {
			l, _ := first(byMark[run.Mark], run)
			for k := range run.Count {
				if k > 0 {
					l.move(run.Step)
				}
				if !yield(number, l) {
					return
				}
				number++
			}
		}
	}
}

// find returns the path of the laid bar with a number.
func find(bars []api.Bar, runs []api.Run, i int) (path, api.Errno) {
	if !Valid(bars, runs) {
		return path{}, api.ErrArg
	}
	for number, found := range paths(bars, runs) {
		if number == i {
			return found, api.OK
		}
	}
	return path{}, api.ErrRange
}

// fits reports whether a run of a bar is valid.
func fits(bar api.Bar, run api.Run) bool {
	if !frame.Valid(run.Turn) || run.Count < 1 || run.Count > api.MaxCount {
		return false
	}
	// A longer step leads out of the limits at once, and many of it might fit no integer.
	if run.Count > 1 && (run.Step == api.Point{} || !within(run.Step, mostApart)) {
		return false
	}
	l, e := first(bar, run)
	if e != api.OK || !l.near() {
		return false
	}
	// What is between the first and the last bar is within the limits if both of these are.
	l.move(times(run.Step, run.Count-1))
	return l.near()
}

// hull returns the hull of points.
func hull(points []api.Point) (api.Box, api.Errno) {
	var l []api.Box
	for _, p := range points {
		l = append(l, api.Box{Lo: p, Hi: p})
	}
	return box.Hull(l)
}

// marked returns the bars by their marks.
func marked(bars []api.Bar) map[string]api.Bar {
	byMark := map[string]api.Bar{}
	for _, bar := range bars {
		byMark[bar.Mark] = bar
	}
	return byMark
}

// total returns how many bars all runs have together.
func total(runs []api.Run) int {
	sum := 0
	for _, run := range runs {
		sum += run.Count
	}
	return sum
}

// within reports whether no coordinate of a point has a greater absolute value than a limit.
func within(p api.Point, limit int) bool {
	return min(p.X, p.Y, p.Z) >= -limit && max(p.X, p.Y, p.Z) <= limit
}

func plus(p, q api.Point) api.Point { return api.Point{X: p.X + q.X, Y: p.Y + q.Y, Z: p.Z + q.Z} }

func times(p api.Point, n int) api.Point { return api.Point{X: p.X * n, Y: p.Y * n, Z: p.Z * n} }
