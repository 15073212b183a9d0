package cover

import (
	"iter"

	"stirrup/api"
	"stirrup/laid"
	"stirrup/steel"
)

// body is what a laid bar takes up: its number, its mark, and the cores of its legs.
type body struct {
	number int
	mark   string
	cores  []api.Box
}

// bodies yields all laid bars of valid runs, in order. The legs are asked for only once for each run, as it takes longer
// to find them than to move them.
func bodies(bars []api.Bar, runs []api.Run) iter.Seq[body] {
	return func(yield func(body) bool) {
		number := 0
		for _, run := range runs {
			legs, _ := laid.Legs(bars, runs, number)
			first := cores(legs, halfOf(bars, run.Mark))
			for k := range run.Count {
				if !yield(body{number: number, mark: run.Mark, cores: moved(first, run.Step, k)}) {
					return
				}
				number++
			}
		}
	}
}

// moved returns boxes that are so many steps away.
func moved(l []api.Box, step api.Point, times int) []api.Box {
	var list []api.Box
	for _, b := range l {
		list = append(list, api.Box{Lo: plus(b.Lo, step, times), Hi: plus(b.Hi, step, times)})
	}
	return list
}

// cores returns the cores of legs, of which a bar takes up half of its size to each side.
func cores(legs []api.Box, half int) []api.Box {
	var list []api.Box
	for _, leg := range legs {
		list = append(list, around.of(leg, half))
	}
	return list
}

// halfOf returns half of the size of a mark.
func halfOf(bars []api.Bar, mark string) int {
	for _, bar := range bars {
		if bar.Mark == mark {
			half, _ := steel.Round(bar.Size)
			return half
		}
	}
	return 0
}
