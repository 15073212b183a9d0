package digraph_test

import (
	"math/rand"
	"slices"
	"testing"

	"stirrup/api"
	"stirrup/digraph"
)

func (d drawing) joined(a, b int) bool { return slices.Contains(d.edges, [2]int{a, b}) }

// eachPath calls do for all paths of different nodes that begin with the given ones, these first; do must not keep them.
func (d drawing) eachPath(path []int, do func(path []int)) {
	do(path)
	for next := range d.n {
		if d.joined(path[len(path)-1], next) && !slices.Contains(path, next) {
			d.eachPath(append(path, next), do)
		}
	}
}

// paths returns all paths of different nodes.
func (d drawing) paths() [][]int {
	var all [][]int
	for node := range d.n {
		d.eachPath([]int{node}, func(path []int) { all = append(all, slices.Clone(path)) })
	}
	return all
}

// eachOrder calls do for all lists of all n nodes that begin with the given ones, in their order; do must not keep them.
func eachOrder(n int, list []int, do func(list []int)) {
	if len(list) == n {
		do(list)
		return
	}
	for node := range n {
		if !slices.Contains(list, node) {
			eachOrder(n, append(list, node), do)
		}
	}
}

// follows reports whether each edge leads to a node that comes later in the list.
func (d drawing) follows(list []int) bool {
	return !slices.ContainsFunc(d.edges, func(ends [2]int) bool {
		return slices.Index(list, ends[0]) >= slices.Index(list, ends[1])
	})
}

// check compares all results for a graph with what the definitions say, and returns whether it has a loop.
func check(t *testing.T, d drawing) bool {
	t.Helper()
	given := slices.Clone(d.edges)
	paths := d.paths()
	checkReach(t, d, paths)
	loop := leastLoop(d, paths)
	loopE, orderE := api.ErrNone, api.OK
	if loop != nil {
		loopE, orderE = api.OK, api.ErrLoop
	}
	if l, e := digraph.Loop(d.n, d.edges); !slices.Equal(l, loop) || e != loopE {
		t.Errorf("the loop of %v is %v, %d, not %v", d, l, e, loop)
	}
	// The order is the least of all lists that Check accepts, as each node in it is as early as it can be.
	var order []int
	eachOrder(d.n, nil, func(list []int) {
		is, e := digraph.Check(d.n, d.edges, list)
		if is != d.follows(list) || e != api.OK {
			t.Errorf("%v: Check of %v is %t, %d", d, list, is, e)
		}
		if is && order == nil {
			order = slices.Clone(list)
		}
	})
	if l, e := digraph.Order(d.n, d.edges); !slices.Equal(l, order) || e != orderE {
		t.Errorf("the order of %v is %v, %d, not %v", d, l, e, order)
	}
	if !slices.Equal(d.edges, given) {
		t.Errorf("%v has become %v", given, d.edges)
	}
	return loop != nil
}

// leastLoop returns the loop that P8.2 describes; none if there is none.
func leastLoop(d drawing, paths [][]int) []int {
	var best []int
	for _, path := range paths {
		if !d.joined(path[len(path)-1], path[0]) {
			continue
		}
		if best == nil || path[0] < best[0] || path[0] == best[0] && (len(path) < len(best) || len(path) == len(best) && slices.Compare(path, best) < 0) {
			best = path
		}
	}
	return best
}

// checkReach compares what nodes reach, and the parts, with the ends of all paths.
func checkReach(t *testing.T, d drawing, paths [][]int) {
	t.Helper()
	reaches := map[[2]int]bool{}
	for _, path := range paths {
		reaches[[2]int{path[0], path[len(path)-1]}] = true
	}
	var parts [][]int
	for a := range d.n {
		var want, part []int
		for b := range d.n {
			if reaches[[2]int{a, b}] {
				want = append(want, b)
				if reaches[[2]int{b, a}] {
					part = append(part, b)
				}
			}
		}
		if l, e := digraph.Reach(d.n, d.edges, a); !slices.Equal(l, want) || e != api.OK {
			t.Errorf("%v: %d reaches %v, %d", d, a, l, e)
		}
		if part[0] == a {
			parts = append(parts, part)
		}
	}
	if l, e := digraph.Parts(d.n, d.edges); !same(l, parts) || e != api.OK {
		t.Errorf("the parts of %v are %v, %d, not %v", d, l, e, parts)
	}
}

// checkLongest compares the longest path of a graph without loops with the first one of the greatest sum among all paths.
func checkLongest(t *testing.T, d drawing, weights []int) {
	t.Helper()
	edges, given := slices.Clone(d.edges), slices.Clone(weights)
	most, want := -1, []int(nil)
	for _, path := range d.paths() {
		sum := sumOf(path, weights)
		if sum > most || sum == most && slices.Compare(path, want) < 0 {
			most, want = sum, path
		}
	}
	if sum, path, e := digraph.Longest(d.n, d.edges, weights); sum != max(most, 0) || !slices.Equal(path, want) || e != api.OK {
		t.Errorf("the longest path of %v with %v is %d, %v, %d, not %d, %v", d, weights, sum, path, e, most, want)
	}
	if !slices.Equal(d.edges, edges) || !slices.Equal(weights, given) {
		t.Error("the arguments have changed")
	}
}

func sumOf(path, weights []int) int {
	sum := 0
	for _, node := range path {
		sum += weights[node]
	}
	return sum
}

// someWeights returns n weights below most.
func someWeights(r *rand.Rand, n, most int) []int {
	var weights []int
	for range n {
		weights = append(weights, r.Intn(most))
	}
	return weights
}

// eachGraph calls do for all graphs of n nodes; own tells whether edges may lead to their own nodes.
func eachGraph(n int, own bool, do func(d drawing)) {
	var all [][2]int
	for a := range n {
		for b := range n {
			if own || a != b {
				all = append(all, [2]int{a, b})
			}
		}
	}
	for chosen := range 1 << len(all) {
		d := drawing{n: n}
		for i, ends := range all {
			if chosen>>i&1 == 1 {
				d.edges = append(d.edges, ends)
			}
		}
		do(d)
	}
}

// P8.1 to P8.4
func TestSmallGraphs(t *testing.T) {
	r := rand.New(rand.NewSource(1))
	compare := func(d drawing) {
		if check(t, d) {
			return
		}
		for most := range 3 {
			checkLongest(t, d, someWeights(r, d.n, most+1))
		}
	}
	for n := range 4 {
		eachGraph(n, true, compare)
	}
	eachGraph(4, false, compare)
}

// P8.3: all small weights.
func TestSmallWeights(t *testing.T) {
	for n := range 4 {
		eachGraph(n, false, func(d drawing) {
			if _, e := digraph.Order(d.n, d.edges); e != api.OK {
				return
			}
			for chosen := range 1 << (2 * n) {
				var weights []int
				for i := range n {
					weights = append(weights, chosen>>(2*i)&3)
				}
				checkLongest(t, d, weights)
			}
		})
	}
}

// someGraph returns a graph of n nodes and k edges, some of which may be the same, or lead to their own nodes.
func someGraph(r *rand.Rand, n, k int) drawing {
	d := drawing{n: n}
	for range k {
		d.edges = append(d.edges, [2]int{r.Intn(n), r.Intn(n)})
	}
	return d
}

// withoutLoops turns the edges of a graph so that they lead forward in some list of the nodes, and leaves out the rest.
func (d drawing) withoutLoops(r *rand.Rand) drawing {
	places := r.Perm(d.n)
	other := drawing{n: d.n}
	for _, ends := range d.edges {
		switch a, b := ends[0], ends[1]; {
		case places[a] < places[b]:
			other.edges = append(other.edges, [2]int{a, b})
		case places[a] > places[b]:
			other.edges = append(other.edges, [2]int{b, a})
		}
	}
	return other
}

// P8.1 to P8.4
func TestRandomGraphs(t *testing.T) {
	r := rand.New(rand.NewSource(2))
	for range 1500 {
		d := someGraph(r, 1+r.Intn(6), r.Intn(16))
		check(t, d)
		d = d.withoutLoops(r)
		if check(t, d) {
			t.Error(d, "has a loop")
		}
		for _, most := range []int{1, 2, 3, 100, 1<<30 + 1} {
			checkLongest(t, d, someWeights(r, d.n, most))
		}
	}
}

// P8.4: all lists, and the errors in their order.
func TestAllLists(t *testing.T) {
	for _, d := range []drawing{{}, {2, nil}, chapter(), round(3), {3, [][2]int{{1, 0}}}, {4, [][2]int{{3, 1}, {1, 0}, {3, 1}}}} {
		for length := range 5 {
			numbers := d.n + 2 // from -1 on
			count := 1
			for range length {
				count *= numbers
			}
			for chosen := range count {
				var list []int
				for rest := chosen; len(list) < length; rest /= numbers {
					list = append(list, rest%numbers-1)
				}
				is, e := digraph.Check(d.n, d.edges, list)
				if wantIs, wantE := checked(d, list); is != wantIs || e != wantE {
					t.Errorf("%v: Check of %v is %t, %d", d, list, is, e)
				}
			}
		}
	}
}

// checked returns what Check promises.
func checked(d drawing, list []int) (bool, api.Errno) {
	nodes := slices.Compact(slices.Sorted(slices.Values(list)))
	switch {
	case len(list) != d.n:
		return false, api.ErrSize
	case d.n > 0 && (nodes[0] < 0 || nodes[len(nodes)-1] >= d.n):
		return false, api.ErrRange
	case len(nodes) < len(list):
		return false, api.ErrTwice
	}
	return d.follows(list), api.OK
}

// largeGraphs are graphs of all densities, up to the limits, with loops and without them.
func largeGraphs() []drawing {
	r := rand.New(rand.NewSource(3))
	l := []drawing{{}, {1, nil}, {60, nil}, chapter(), round(60), round(60).turned(), ladder(45), ladder(45).turned(), ladder(45).with([2]int{44, 0}),
		ladder(45).with([2]int{30, 20}), {60, round(60).edges[:59]}, someGraph(r, 60, 1000), someGraph(r, 60, 1000).withoutLoops(r), someGraph(r, 60, 60)}
	for range 30 {
		d := someGraph(r, 20+r.Intn(41), 10+r.Intn(120))
		other := d.withoutLoops(r)
		l = append(l, d, other, other.with(someGraph(r, d.n, 1+r.Intn(3)).edges...))
	}
	return l
}

// distances returns the least numbers of edges of paths, by their first and last nodes; a pair without a path is not in it.
func (d drawing) distances() map[[2]int]int {
	far := map[[2]int]int{}
	for a := range d.n {
		far[[2]int{a, a}] = 0
		for _, ends := range d.edges {
			if ends[0] == a && ends[1] != a {
				far[[2]int{a, ends[1]}] = 1
			}
		}
	}
	for by := range d.n {
		for a := range d.n {
			for b := range d.n {
				first, ok := far[[2]int{a, by}]
				second, also := far[[2]int{by, b}]
				if old, is := far[[2]int{a, b}]; ok && also && (!is || first+second < old) {
					far[[2]int{a, b}] = first + second
				}
			}
		}
	}
	return far
}

// P8.5: an order that Check accepts, or a loop, within a part, and never both.
func TestLawsOfOrdersAndLoops(t *testing.T) {
	withLoops := 0
	for i, d := range largeGraphs() {
		order, orderE := digraph.Order(d.n, d.edges)
		loop, loopE := digraph.Loop(d.n, d.edges)
		parts, _ := digraph.Parts(d.n, d.edges)
		is := slices.ContainsFunc(d.edges, func(ends [2]int) bool { return ends[0] == ends[1] }) ||
			slices.ContainsFunc(parts, func(part []int) bool { return len(part) > 1 })
		switch {
		case is:
			withLoops++
			if orderE != api.ErrLoop || loopE != api.OK || order != nil {
				t.Errorf("graph %d: the order %v, %d, the loop %v, %d", i, order, orderE, loop, loopE)
				continue
			}
			checkLoop(t, i, d, loop)
			if !slices.ContainsFunc(parts, func(part []int) bool {
				return !slices.ContainsFunc(loop, func(node int) bool { return !slices.Contains(part, node) })
			}) {
				t.Errorf("graph %d: the loop %v is in no part", i, loop)
			}
		case orderE != api.OK || loopE != api.ErrNone || loop != nil:
			t.Errorf("graph %d: the order %v, %d, the loop %v, %d", i, order, orderE, loop, loopE)
		default:
			checkOrder(t, i, d, order)
		}
	}
	if withLoops < 20 || withLoops > 80 {
		t.Error(withLoops, "graphs with loops")
	}
}

// checkOrder looks for a node in the order that is not the least one of those that are free.
func checkOrder(t *testing.T, i int, d drawing, order []int) {
	t.Helper()
	if is, e := digraph.Check(d.n, d.edges, order); !is || e != api.OK {
		t.Errorf("graph %d: Check of the order is %t, %d", i, is, e)
	}
	for place, node := range order {
		for _, later := range order[place:] {
			if later < node && !slices.ContainsFunc(order[place:], func(other int) bool { return d.joined(other, later) }) {
				t.Errorf("graph %d: %d comes before %d", i, node, later)
			}
		}
	}
}

// checkLoop looks for a loop of a lesser node, for a shorter one, and for a lesser one.
func checkLoop(t *testing.T, i int, d drawing, loop []int) {
	t.Helper()
	far := d.distances()
	// left returns the least number of edges of a loop of a node that goes on with the next one, 0 if there is none.
	left := func(node, next, first int) int {
		if rest, ok := far[[2]int{next, first}]; ok && d.joined(node, next) {
			return rest + 1
		}
		return 0
	}
	for k, node := range loop {
		next := loop[(k+1)%len(loop)]
		if left(node, next, loop[0]) != len(loop)-k {
			t.Errorf("graph %d: %v is no loop", i, loop)
		}
		for other := range d.n {
			if n := left(node, other, loop[0]); n > 0 && (n < len(loop)-k || n == len(loop)-k && other < next) {
				t.Errorf("graph %d: %d comes before %d in the loop %v", i, other, next, loop)
			}
		}
	}
	for node := range loop[0] {
		for next := range d.n {
			if left(node, next, node) > 0 {
				t.Errorf("graph %d: %d is in a loop, but not in %v", i, node, loop)
			}
		}
	}
}

// P8.2, P8.4, P8.5: nodes of a part reach one another, and other ones do not; turned edges leave the parts as they are.
func TestLawsOfParts(t *testing.T) {
	for i, d := range largeGraphs() {
		far := d.distances()
		var want [][]int
		for a := range d.n {
			var reached, part []int
			for b := range d.n {
				if _, ok := far[[2]int{a, b}]; ok {
					reached = append(reached, b)
					if _, back := far[[2]int{b, a}]; back {
						part = append(part, b)
					}
				}
			}
			if l, e := digraph.Reach(d.n, d.edges, a); !slices.Equal(l, reached) || e != api.OK {
				t.Errorf("graph %d: %d reaches %v, %d", i, a, l, e)
			}
			if part[0] == a {
				want = append(want, part)
			}
		}
		for _, other := range []drawing{d, d.turned()} {
			if parts, e := digraph.Parts(other.n, other.edges); !same(parts, want) || e != api.OK {
				t.Errorf("graph %d: the parts are %v, %d, not %v", i, parts, e, want)
			}
		}
	}
}

// P8.3, P8.5: a path whose weights have the sum, none that is longer, and the same sum if all edges are turned round.
func TestLawsOfLongestPaths(t *testing.T) {
	r := rand.New(rand.NewSource(4))
	for i, d := range largeGraphs() {
		order, e := digraph.Order(d.n, d.edges)
		if e != api.OK {
			continue
		}
		for _, most := range []int{1, 2, 10, 1<<30 + 1} {
			weights := someWeights(r, d.n, most)
			sum, path, e := digraph.Longest(d.n, d.edges, weights)
			if sum != greatest(d, order, weights) || sumOf(path, weights) != sum || e != api.OK {
				t.Errorf("graph %d: the longest path is %d, %v, %d", i, sum, path, e)
			}
			for k := 1; k < len(path); k++ {
				if !d.joined(path[k-1], path[k]) {
					t.Errorf("graph %d: %v is no path", i, path)
				}
			}
			other := d.turned()
			if back, _, e := digraph.Longest(other.n, other.edges, weights); back != sum || e != api.OK {
				t.Errorf("graph %d: turned round the longest path is %d, %d, not %d", i, back, e, sum)
			}
		}
	}
}

// greatest returns the greatest sum of the weights of a path, which is found from the ends of paths.
func greatest(d drawing, order, weights []int) int {
	sums := make([]int, d.n)
	most := 0
	for _, node := range order {
		for _, ends := range d.edges {
			if ends[1] == node {
				sums[node] = max(sums[node], sums[ends[0]])
			}
		}
		sums[node] += weights[node]
		most = max(most, sums[node])
	}
	return most
}

// The edges may be in any order, and be there again.
func TestOrderOfEdges(t *testing.T) {
	r := rand.New(rand.NewSource(5))
	for i, d := range largeGraphs() {
		other := drawing{d.n, slices.Clone(d.edges)}
		if again := min(len(d.edges), 1000-len(d.edges)); again > 0 {
			other = d.with(d.edges[:again]...)
		}
		r.Shuffle(len(other.edges), func(i, k int) { other.edges[i], other.edges[k] = other.edges[k], other.edges[i] })
		weights := someWeights(r, d.n, 3)
		if a, b := resultsOf(d, weights), resultsOf(other, weights); !same(a, b) {
			t.Errorf("graph %d: %v, and %v", i, a, b)
		}
	}
}

// resultsOf returns all results for a graph that are lists.
func resultsOf(d drawing, weights []int) [][]int {
	order, _ := digraph.Order(d.n, d.edges)
	loop, _ := digraph.Loop(d.n, d.edges)
	_, path, _ := digraph.Longest(d.n, d.edges, weights)
	reached, _ := digraph.Reach(d.n, d.edges, 0)
	parts, _ := digraph.Parts(d.n, d.edges)
	return append([][]int{order, loop, path, reached}, parts...)
}

// What is written into a result, or behind its end, is not seen in another one, nor in the arguments, nor in later results.
func TestMemory(t *testing.T) {
	for _, d := range []drawing{
		{6, [][2]int{{0, 3}, {3, 1}, {1, 4}, {3, 4}, {5, 2}}},
		{6, [][2]int{{0, 3}, {3, 1}, {1, 0}, {4, 5}, {5, 4}, {3, 2}}},
	} {
		edges, weights := slices.Clone(d.edges), []int{1, 2, 3, 4, 5, 6}
		want := resultsOf(d, weights)
		for i := range want {
			others := resultsOf(d, weights)
			list := others[i][:cap(others[i])]
			for k := range list {
				list[k] = -7
			}
			for k := range others {
				if k != i && !slices.Equal(others[k], want[k]) {
					t.Error("the results", i, "and", k, "share memory")
				}
			}
			if again := resultsOf(d, weights); !same(again, want) {
				t.Error(again, "instead of", want)
			}
		}
		if !slices.Equal(d.edges, edges) || !slices.Equal(weights, []int{1, 2, 3, 4, 5, 6}) {
			t.Error("the arguments have changed")
		}
	}
}
