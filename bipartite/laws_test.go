package bipartite_test

import (
	"math/rand"
	"slices"
	"testing"

	"stirrup/api"
	"stirrup/bipartite"
)

// matchings returns all matchings from the left node on, in their order; the right nodes that are taken have partners.
func matchings(d drawing, left int, taken []int) [][]int {
	if left == d.n {
		return [][]int{nil}
	}
	var lists [][]int
	add := func(right int, taken []int) {
		for _, rest := range matchings(d, left+1, taken) {
			lists = append(lists, append([]int{right}, rest...))
		}
	}
	for right := range d.m {
		if slices.Contains(d.edges, [2]int{left, right}) && !slices.Contains(taken, right) {
			add(right, append(slices.Clone(taken), right))
		}
	}
	add(-1, taken)
	return lists
}

// size returns the number of edges of a matching.
func size(match []int) int {
	k := 0
	for _, r := range match {
		if r >= 0 {
			k++
		}
	}
	return k
}

// largest returns those of the matchings that have the most edges.
func largest(lists [][]int) [][]int {
	var most [][]int
	for _, list := range lists {
		switch {
		case most == nil || size(list) > size(most[0]):
			most = [][]int{list}
		case size(list) == size(most[0]):
			most = append(most, list)
		}
	}
	return most
}

// some returns those of the numbers from 0 to n - 1 of which is tells so.
func some(n int, is func(i int) bool) []int {
	var l []int
	for i := range n {
		if is(i) {
			l = append(l, i)
		}
	}
	return l
}

// check compares all results for a graph with what the definitions say.
func check(t *testing.T, d drawing) {
	t.Helper()
	given := slices.Clone(d.edges)
	joined := func(l, r int) bool { return slices.Contains(given, [2]int{l, r}) }
	most := largest(matchings(d, 0, nil))
	if l, e := bipartite.Match(d.n, d.m, d.edges); !slices.Equal(l, most[0]) || e != api.OK {
		t.Errorf("the matching of %v is %v, %d", d, l, e)
	}
	open := some(d.n, func(l int) bool { return slices.ContainsFunc(most, func(m []int) bool { return m[l] < 0 }) })
	right := some(d.m, func(r int) bool { return slices.ContainsFunc(open, func(l int) bool { return joined(l, r) }) })
	left := some(d.n, func(l int) bool {
		return len(some(d.m, func(r int) bool { return joined(l, r) && !slices.Contains(right, r) })) > 0
	})
	if a, b, e := bipartite.Cover(d.n, d.m, d.edges); !slices.Equal(a, left) || !slices.Equal(b, right) || e != api.OK {
		t.Errorf("the cover of %v is %v, %v, %d", d, a, b, e)
	}
	openE := api.OK
	if len(open) == 0 {
		openE = api.ErrNone
	}
	if l, e := bipartite.Violator(d.n, d.m, d.edges); !slices.Equal(l, open) || e != openE {
		t.Errorf("the violator of %v is %v, %d", d, l, e)
	}
	var forced [][2]int
	for l, r := range most[0] {
		if r >= 0 && !slices.ContainsFunc(most, func(m []int) bool { return m[l] != r }) {
			forced = append(forced, [2]int{l, r})
		}
	}
	if l, e := bipartite.Forced(d.n, d.m, d.edges); !slices.Equal(l, forced) || e != api.OK {
		t.Errorf("the forced edges of %v are %v, %d", d, l, e)
	}
	checkDegrees(t, d, joined)
	if !slices.Equal(d.edges, given) {
		t.Errorf("%v has become %v", given, d.edges)
	}
}

func checkDegrees(t *testing.T, d drawing, joined func(l, r int) bool) {
	t.Helper()
	left, right := make([]int, d.n), make([]int, d.m)
	for l := range d.n {
		left[l] = len(some(d.m, func(r int) bool { return joined(l, r) }))
	}
	for r := range d.m {
		right[r] = len(some(d.n, func(l int) bool { return joined(l, r) }))
	}
	if a, b, e := bipartite.Degrees(d.n, d.m, d.edges); !slices.Equal(a, left) || !slices.Equal(b, right) || e != api.OK {
		t.Errorf("the degrees of %v are %v, %v, %d", d, a, b, e)
	}
}

// P7.1, P7.2, P7.3
func TestSmallGraphs(t *testing.T) {
	for n := range 5 {
		for m := range 5 {
			all := full(n, m)
			if len(all.edges) > 12 {
				continue
			}
			for chosen := range 1 << len(all.edges) {
				d := drawing{n: n, m: m}
				for i, ends := range all.edges {
					if chosen>>i&1 == 1 {
						d.edges = append(d.edges, ends)
					}
				}
				check(t, d)
			}
		}
	}
}

// someGraph returns a graph of n and m nodes and k edges, some of which may be the same.
func someGraph(r *rand.Rand, n, m, k int) drawing {
	d := drawing{n: n, m: m}
	for range k {
		d.edges = append(d.edges, [2]int{r.Intn(n), r.Intn(m)})
	}
	return d
}

// P7.1, P7.2, P7.3
func TestRandomGraphs(t *testing.T) {
	r := rand.New(rand.NewSource(1))
	for range 3000 {
		check(t, someGraph(r, 1+r.Intn(6), 1+r.Intn(6), r.Intn(16)))
	}
}

// largeGraphs are graphs of all densities, up to the limits.
func largeGraphs() []drawing {
	r := rand.New(rand.NewSource(2))
	l := []drawing{chapter(), {}, {60, 60, nil}, {60, 0, nil}, stairs(60), full(31, 32), full(60, 16), full(16, 60), someGraph(r, 60, 60, 1000), someGraph(r, 60, 5, 1000)}
	for range 16 {
		l = append(l, someGraph(r, 20+r.Intn(41), 20+r.Intn(41), 20+r.Intn(130)))
	}
	return l
}

// sizeOf returns the number of edges of a greatest matching, which a cover and a matching with as many prove.
func sizeOf(t *testing.T, d drawing) int {
	t.Helper()
	match, matchE := bipartite.Match(d.n, d.m, d.edges)
	left, right, coverE := bipartite.Cover(d.n, d.m, d.edges)
	k := len(left) + len(right)
	if size(match) != k || len(match) != d.n || matchE != api.OK || coverE != api.OK {
		t.Fatalf("%v: the matching %v, %d, the cover %v, %v, %d", d, match, matchE, left, right, coverE)
	}
	if slices.ContainsFunc(d.edges, func(ends [2]int) bool {
		return !slices.Contains(left, ends[0]) && !slices.Contains(right, ends[1])
	}) {
		t.Fatalf("%v: %v, %v is no cover", d, left, right)
	}
	taken := map[int]bool{}
	for l, r := range match {
		if r != -1 && (taken[r] || !slices.Contains(d.edges, [2]int{l, r})) {
			t.Fatalf("%v: %v is no matching", d, match)
		}
		taken[r] = true
	}
	return k
}

// only returns the graph with only those of its edges of which is tells so.
func (d drawing) only(is func(ends [2]int) bool) drawing {
	other := drawing{n: d.n, m: d.m}
	for _, ends := range d.edges {
		if is(ends) {
			other.edges = append(other.edges, ends)
		}
	}
	return other
}

// P7.5: a matching with as many edges as a cover has nodes. P7.1: with a lesser partner of a node, after the same
// partners of those before it, a matching is smaller.
func TestLawsOfMatchings(t *testing.T) {
	for i, d := range largeGraphs() {
		k := sizeOf(t, d)
		match, _ := bipartite.Match(d.n, d.m, d.edges)
		for l, r := range match {
			before := match[:l]
			for _, ends := range d.edges {
				if ends[0] != l || r >= 0 && ends[1] >= r || slices.Contains(before, ends[1]) {
					continue
				}
				rest := d.only(func(other [2]int) bool {
					return other[0] > l && other[1] != ends[1] && !slices.Contains(before, other[1])
				})
				if size(before)+1+sizeOf(t, rest) >= k {
					t.Fatalf("graph %d: %d may have %d instead of %d", i, l, ends[1], r)
				}
			}
		}
	}
}

// P7.5: the open left nodes have fewer neighbours than they are, by as many as there are left nodes without partners.
func TestLawsOfViolators(t *testing.T) {
	for i, d := range largeGraphs() {
		lacking := d.n - sizeOf(t, d)
		open, e := bipartite.Violator(d.n, d.m, d.edges)
		neighbours := map[int]bool{}
		for _, ends := range d.edges {
			if slices.Contains(open, ends[0]) {
				neighbours[ends[1]] = true
			}
		}
		if len(open)-len(neighbours) != lacking || !slices.IsSorted(open) || (e == api.OK) != (lacking > 0) || e != api.OK && e != api.ErrNone {
			t.Errorf("graph %d: %d left nodes lack partners, but %v, %d, has %d neighbours", i, lacking, open, e, len(neighbours))
		}
	}
}

// P7.5: without a forced edge the greatest matching is smaller, without any other edge it is not.
func TestLawsOfForcedEdges(t *testing.T) {
	for i, d := range largeGraphs() {
		k := sizeOf(t, d)
		var want [][2]int
		for l := range d.n {
			for r := range d.m {
				if ends := [2]int{l, r}; slices.Contains(d.edges, ends) && sizeOf(t, d.only(func(other [2]int) bool { return other != ends })) < k {
					want = append(want, ends)
				}
			}
		}
		if forced, e := bipartite.Forced(d.n, d.m, d.edges); !slices.Equal(forced, want) || e != api.OK {
			t.Errorf("graph %d: the forced edges are %v, %d, not %v", i, forced, e, want)
		}
	}
}

// eachMatching calls do for all matchings of the rows from the first one behind the list on, in their order, with their sums.
func eachMatching(weights [][]int, list []int, sum int, do func(list []int, sum int)) {
	if len(list) == len(weights) {
		do(list, sum)
		return
	}
	for r, weight := range weights[len(list)] {
		if weight >= 0 && !slices.Contains(list, r) {
			eachMatching(weights, append(list, r), sum+weight, do)
		}
	}
	eachMatching(weights, append(list, -1), sum, do)
}

// checkHeaviest compares the heaviest matching with the first one of the greatest sum among all of them.
func checkHeaviest(t *testing.T, weights [][]int) {
	t.Helper()
	var given [][]int
	for _, row := range weights {
		given = append(given, slices.Clone(row))
	}
	most, want := -1, []int(nil)
	eachMatching(weights, nil, 0, func(list []int, sum int) {
		if sum > most {
			most, want = sum, slices.Clone(list)
		}
	})
	if sum, match, e := bipartite.Heaviest(weights); sum != most || !slices.Equal(match, want) || e != api.OK {
		t.Errorf("the heaviest matching of %v is %d, %v, %d, not %d, %v", weights, sum, match, e, most, want)
	}
	if !slices.EqualFunc(weights, given, func(a, b []int) bool { return slices.Equal(a, b) }) {
		t.Errorf("%v has become %v", given, weights)
	}
}

// P7.4, P7.5
func TestSmallWeights(t *testing.T) {
	for n := 1; n <= 3; n++ {
		for m := 1; n*m <= 6; m++ {
			for chosen := range 1 << (2 * n * m) {
				var weights [][]int
				for l := range n {
					var row []int
					for r := range m {
						row = append(row, chosen>>(2*(l*m+r))&3-1)
					}
					weights = append(weights, row)
				}
				checkHeaviest(t, weights)
			}
		}
	}
}

// someWeights returns n rows of m weights below most, or -1.
func someWeights(r *rand.Rand, n, m, most int) [][]int {
	var weights [][]int
	for range n {
		var row []int
		for range m {
			row = append(row, r.Intn(most+1)-1)
		}
		weights = append(weights, row)
	}
	return weights
}

// P7.4, P7.5
func TestRandomWeights(t *testing.T) {
	r := rand.New(rand.NewSource(3))
	for range 2000 {
		checkHeaviest(t, someWeights(r, 1+r.Intn(5), 1+r.Intn(5), 1+r.Intn(9)))
	}
	for _, most := range []int{1, 2, 3, 5, 20, 1<<30 + 1} {
		checkHeaviest(t, someWeights(r, 8, 8, most))
		checkHeaviest(t, someWeights(r, 8, 3, most))
		checkHeaviest(t, someWeights(r, 3, 8, most))
	}
}

// What is written into a result, or behind its end, is not seen in another one, nor in the arguments, nor in later results.
func TestMemory(t *testing.T) {
	d := someGraph(rand.New(rand.NewSource(4)), 20, 20, 30)
	given := slices.Clone(d.edges)
	weights := [][]int{{3, 2}, {2, -1}}
	results := func() [][]int {
		match, _ := bipartite.Match(d.n, d.m, d.edges)
		left, right, _ := bipartite.Cover(d.n, d.m, d.edges)
		open, _ := bipartite.Violator(d.n, d.m, d.edges)
		lefts, rights, _ := bipartite.Degrees(d.n, d.m, d.edges)
		_, heaviest, _ := bipartite.Heaviest(weights)
		return [][]int{match, left, right, open, lefts, rights, heaviest}
	}
	want := results()
	for i := range want {
		others := results()
		list := others[i][:cap(others[i])]
		for k := range list {
			list[k] = -7
		}
		for k := range others {
			if k != i && !slices.Equal(others[k], want[k]) {
				t.Error("the results", i, "and", k, "share memory")
			}
		}
		if again := results(); !slices.EqualFunc(again, want, func(a, b []int) bool { return slices.Equal(a, b) }) {
			t.Error(again, "instead of", want)
		}
	}
	if forced, _ := bipartite.Forced(d.n, d.m, d.edges); len(forced) > 0 {
		forced[0] = [2]int{-7, -7}
	}
	if !slices.Equal(d.edges, given) || weights[0][0] != 3 || weights[0][1] != 2 || weights[1][0] != 2 || weights[1][1] != -1 {
		t.Error("the arguments have changed")
	}
}
