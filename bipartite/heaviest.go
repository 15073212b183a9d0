package bipartite

import (
	"slices"

	"stirrup/api"
)

const (
	mostWeighed = 8 // nodes of a side of a graph with weights
	mostWeight  = 1 << 30
	noEdge      = -1 // in the place of a weight
)

// sums are the greatest sums of the matchings of the left nodes from a first one on, by the set of the right nodes that
// nodes before it have taken.
type sums [mostWeighed + 1][1 << mostWeighed]int

// Heaviest returns the sum of the heaviest matching, and the matching.
func Heaviest(weights [][]int) (int, []int, api.Errno) {
	if e := fault(weights); e != api.OK {
		return 0, nil, e
	}
	most := sumsOf(weights)
	match := slices.Repeat([]int{none}, len(weights))
	var taken set
	for l, row := range weights {
		for r, weight := range row {
			if mayTake(weight, r, taken) && weight+most[l+1][taken.with(r)] == most[l][taken] {
				match[l] = r
				taken = taken.with(r)
				break
			}
		}
	}
	return most[0][0], match, api.OK
}

// fault returns what is wrong with weights.
func fault(weights [][]int) api.Errno {
	switch {
	case len(weights) > mostWeighed, slices.ContainsFunc(weights, func(row []int) bool { return len(row) > mostWeighed }):
		return api.ErrFull
	case slices.ContainsFunc(weights, func(row []int) bool { return len(row) != len(weights[0]) }):
		return api.ErrSize
	case slices.ContainsFunc(weights, func(row []int) bool { return slices.ContainsFunc(row, isNoWeight) }):
		return api.ErrRange
	}
	return api.OK
}

func isNoWeight(x int) bool { return x != noEdge && (x < 0 || x > mostWeight) }

// sumsOf returns the greatest sums, which are found from the last left node back to the first one.
func sumsOf(weights [][]int) sums {
	var most sums
	for l := len(weights) - 1; l >= 0; l-- {
		for taken := range most[l] {
			most[l][taken] = most[l+1][taken]
			for r, weight := range weights[l] {
				if s := set(taken); mayTake(weight, r, s) {
					most[l][taken] = max(most[l][taken], weight+most[l+1][s.with(r)])
				}
			}
		}
	}
	return most
}

// mayTake reports whether there is an edge with the weight, and its right node r is not taken.
func mayTake(weight, r int, taken set) bool { return weight != noEdge && !taken.has(r) }
