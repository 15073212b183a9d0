package graph_test

import (
	"math/rand"
	"slices"
	"testing"

	"stirrup/api"
	"stirrup/graph"
)

// without returns the edges but the one with the index i.
func without(edges [][2]int, i int) [][2]int {
	return slices.Delete(slices.Clone(edges), i, i+1)
}

// joins tells for all pairs of nodes whether they are joined: over the node 0, and others, and over the node 1 ..
func joins(n int, edges [][2]int) [][]bool {
	joined := make([][]bool, n)
	for a := range joined {
		joined[a] = make([]bool, n)
		joined[a][a] = true
	}
	for _, ends := range edges {
		joined[ends[0]][ends[1]], joined[ends[1]][ends[0]] = true, true
	}
	for over := range n {
		for a := range n {
			for b := range n {
				joined[a][b] = joined[a][b] || joined[a][over] && joined[over][b]
			}
		}
	}
	return joined
}

// partsOf returns the parts, from what is joined.
func partsOf(n int, edges [][2]int) [][]int {
	joined := joins(n, edges)
	var parts [][]int
	for a := range n {
		var part []int
		for b := range n {
			if joined[a][b] {
				part = append(part, b)
			}
		}
		if part[0] == a {
			parts = append(parts, part)
		}
	}
	return parts
}

// pathsOf returns all paths from a to b of so many of the listed edges, in the order of the list.
func pathsOf(edges [][2]int, list []int, a, b, length int) [][]int {
	if length == 0 {
		if a == b {
			return [][]int{nil}
		}
		return nil
	}
	var paths [][]int
	for _, i := range list {
		for k, end := range edges[i] {
			if end == a {
				for _, rest := range pathsOf(edges, list, edges[i][1-k], b, length-1) {
					paths = append(paths, append([]int{i}, rest...))
				}
			}
		}
	}
	return paths
}

// shortest returns the first path of the fewest edges, and whether there is one.
func shortest(n int, edges [][2]int, list []int, a, b int) ([]int, bool) {
	for length := range n {
		if paths := pathsOf(edges, list, a, b, length); len(paths) > 0 {
			return paths[0], true
		}
	}
	return nil, false
}

// goesRound reports whether there are nodes, all different and none of those taken, with which the list is a cycle.
func goesRound(n int, edges [][2]int, list, taken []int) bool {
	if k := len(taken); k == len(list) {
		for i := range list {
			a, b := taken[i], taken[(i+1)%k]
			if ends := edges[list[i]]; ends != [2]int{a, b} && ends != [2]int{b, a} {
				return false
			}
		}
		return true
	}
	for node := range n {
		if !slices.Contains(taken, node) && goesRound(n, edges, list, append(slices.Clone(taken), node)) {
			return true
		}
	}
	return false
}

func isCycle(n int, edges [][2]int, list []int) bool {
	sorted := slices.Clone(list)
	slices.Sort(sorted)
	return len(list) >= 2 && len(slices.Compact(sorted)) == len(list) && goesRound(n, edges, list, nil)
}

func numbers(n int) []int {
	var l []int
	for i := range n {
		l = append(l, i)
	}
	return l
}

// check compares all results but those of Cycle with what the definitions say.
func check(t *testing.T, n int, edges [][2]int) {
	t.Helper()
	given := slices.Clone(edges)
	var forest, bridges []int
	for i, ends := range edges {
		if !joins(n, edges[:i])[ends[0]][ends[1]] {
			forest = append(forest, i)
		}
		if !joins(n, without(edges, i))[ends[0]][ends[1]] {
			bridges = append(bridges, i)
		}
	}
	var cycles [][]int
	for i, ends := range edges {
		if !slices.Contains(forest, i) {
			back, _ := shortest(n, edges, forest, ends[1], ends[0])
			cycles = append(cycles, append([]int{i}, back...))
		}
	}
	if l, e := graph.Parts(n, edges); !same(l, partsOf(n, edges)) || e != api.OK {
		t.Errorf("the parts of %v with %d nodes are %v, %d", edges, n, l, e)
	}
	if l, e := graph.Forest(n, edges); !slices.Equal(l, forest) || e != api.OK {
		t.Errorf("the forest of %v with %d nodes is %v, %d", edges, n, l, e)
	}
	if l, e := graph.Cycles(n, edges); !same(l, cycles) || e != api.OK {
		t.Errorf("the cycles of %v with %d nodes are %v, %d", edges, n, l, e)
	}
	if k, e := graph.Count(n, edges); k != len(cycles) || e != api.OK {
		t.Errorf("the count of %v with %d nodes is %d, %d", edges, n, k, e)
	}
	if l, e := graph.Bridges(n, edges); !slices.Equal(l, bridges) || e != api.OK {
		t.Errorf("the bridges of %v with %d nodes are %v, %d", edges, n, l, e)
	}
	checkPaths(t, n, edges)
	if !slices.Equal(edges, given) {
		t.Errorf("%v has become %v", given, edges)
	}
}

// checkPaths does so for the paths between all nodes.
func checkPaths(t *testing.T, n int, edges [][2]int) {
	t.Helper()
	for a := range n {
		for b := range n {
			want, found := shortest(n, edges, numbers(len(edges)), a, b)
			wantE := api.OK
			if !found {
				wantE = api.ErrNone
			}
			if l, e := graph.Path(n, edges, a, b); !slices.Equal(l, want) || e != wantE {
				t.Errorf("the path of %v with %d nodes from %d to %d is %v, %d", edges, n, a, b, l, e)
			}
		}
	}
}

// eachList calls do for all lists of so many of the elements.
func eachList[T any](elements []T, length int, do func(list []T)) {
	if length == 0 {
		do(nil)
		return
	}
	eachList(elements, length-1, func(list []T) {
		for _, x := range elements {
			do(append(slices.Clone(list), x))
		}
	})
}

// pairs returns all edges that there may be.
func pairs(n int) [][2]int {
	var l [][2]int
	for a := range n {
		for b := range n {
			if a != b {
				l = append(l, [2]int{a, b})
			}
		}
	}
	return l
}

// P5.1, P5.2, P5.3
func TestSmallGraphs(t *testing.T) {
	for n, most := range []int{0, 0, 5, 4, 3, 2} {
		for length := range most + 1 {
			eachList(pairs(n), length, func(edges [][2]int) { check(t, n, edges) })
		}
	}
}

// P5.2: all lists of edges of graphs in which edges meet in all ways.
func TestSmallCycles(t *testing.T) {
	for _, d := range []drawing{chapter(), {2, [][2]int{{0, 1}, {1, 0}, {0, 1}}}, {3, [][2]int{{0, 1}, {1, 2}, {2, 0}, {1, 0}, {1, 2}}},
		{4, [][2]int{{0, 1}, {2, 1}, {2, 3}, {3, 0}, {0, 2}}}, {4, [][2]int{{0, 1}, {2, 3}, {3, 2}, {1, 0}}}} {
		for length := range 6 {
			eachList(numbers(len(d.edges)), length, func(list []int) {
				if is, e := graph.Cycle(d.n, d.edges, list); is != isCycle(d.n, d.edges, list) || e != api.OK {
					t.Errorf("Cycle of %v in %v is %t, %d", list, d.edges, is, e)
				}
			})
		}
	}
}

// someGraph returns a graph of n nodes and k edges.
func someGraph(r *rand.Rand, n, k int) drawing {
	d := drawing{n: n}
	for range k {
		a, b := r.Intn(n), r.Intn(n-1)
		if b >= a {
			b++
		}
		d.edges = append(d.edges, [2]int{a, b})
	}
	return d
}

// P5.1, P5.2, P5.3
func TestRandomGraphs(t *testing.T) {
	r := rand.New(rand.NewSource(1))
	for range 2000 {
		n := 2 + r.Intn(6)
		d := someGraph(r, n, r.Intn(9))
		check(t, d.n, d.edges)
	}
}

// largeGraphs are graphs of all densities, up to the limits.
func largeGraphs() []drawing {
	r := rand.New(rand.NewSource(2))
	l := []drawing{chapter(), knot(), {0, nil}, {1000, nil}, line(1000), someGraph(r, 1000, 4000), someGraph(r, 1000, 1000), someGraph(r, 2, 4000)}
	for range 10 {
		l = append(l, someGraph(r, 2+r.Intn(400), r.Intn(600)))
	}
	round := line(1000)
	round.edges = append(round.edges, [2]int{0, 999})
	l = append(l, round)
	round.edges = append(slices.Clone(round.edges), slices.Repeat([][2]int{{999, 0}}, 3000)...)
	return append(l, round)
}

// P5.4: the edges of the forest, and the parts, are together as many as the nodes, and the other edges have cycles.
func TestNumbers(t *testing.T) {
	for i, d := range largeGraphs() {
		parts, _ := graph.Parts(d.n, d.edges)
		forest, _ := graph.Forest(d.n, d.edges)
		cycles, _ := graph.Cycles(d.n, d.edges)
		count, e := graph.Count(d.n, d.edges)
		if len(forest)+len(parts) != d.n || len(forest)+len(cycles) != len(d.edges) || count != len(cycles) || e != api.OK {
			t.Errorf("graph %d: %d edges in the forest, %d parts, %d cycles, counted %d, %d", i, len(forest), len(parts), len(cycles), count, e)
		}
	}
}

// P5.4: each cycle is one, and has exactly one edge that is not in the forest, which is its first one, from its first
// end to its second one; an edge is a bridge exactly if no cycle has it.
func TestLawsOfCycles(t *testing.T) {
	for i, d := range largeGraphs() {
		forest, _ := graph.Forest(d.n, d.edges)
		inForest := make([]bool, len(d.edges))
		for _, k := range forest {
			inForest[k] = true
		}
		cycles, e := graph.Cycles(d.n, d.edges)
		inCycle := make([]bool, len(d.edges))
		for _, list := range cycles {
			others := 0
			for _, k := range list {
				inCycle[k] = true
				if !inForest[k] {
					others++
				}
			}
			next := d.edges[list[1]]
			if is, e := graph.Cycle(d.n, d.edges, list); !is || e != api.OK || others != 1 || inForest[list[0]] || !slices.Contains(next[:], d.edges[list[0]][1]) {
				t.Fatalf("graph %d: %v, %t, %d", i, list, is, e)
			}
		}
		var bridges []int
		for k, is := range inCycle {
			if !is {
				bridges = append(bridges, k)
			}
		}
		if l, bridgesE := graph.Bridges(d.n, d.edges); !slices.Equal(l, bridges) || e != api.OK || bridgesE != api.OK {
			t.Errorf("graph %d: the bridges %v, %d; no cycle has %v, %d", i, l, bridgesE, bridges, e)
		}
	}
}

// P5.4: without an edge of a cycle the parts are the same, without a bridge there is one more.
func TestLawsOfParts(t *testing.T) {
	for i, d := range largeGraphs() {
		parts, _ := graph.Parts(d.n, d.edges)
		bridges, _ := graph.Bridges(d.n, d.edges)
		for k := 0; k < len(d.edges); k += 1 + len(d.edges)/200 {
			l, e := graph.Parts(d.n, without(d.edges, k))
			_, isBridge := slices.BinarySearch(bridges, k)
			if isBridge && len(l) != len(parts)+1 || !isBridge && !same(l, parts) || e != api.OK {
				t.Errorf("graph %d: %d parts instead of %d without the edge %d, %d", i, len(l), len(parts), k, e)
			}
		}
	}
}

// P5.4: a path back has as many edges. P5.3: it leads from a to b.
func TestLawsOfPaths(t *testing.T) {
	r := rand.New(rand.NewSource(3))
	for i, d := range largeGraphs() {
		if d.n == 0 {
			continue
		}
		parts, _ := graph.Parts(d.n, d.edges)
		partOf := make([]int, d.n)
		for k, part := range parts {
			for _, node := range part {
				partOf[node] = k
			}
		}
		for range 100 {
			a, b := r.Intn(d.n), r.Intn(d.n)
			there, e := graph.Path(d.n, d.edges, a, b)
			back, backE := graph.Path(d.n, d.edges, b, a)
			if len(there) != len(back) || e != backE || (e == api.OK) != (partOf[a] == partOf[b]) {
				t.Fatalf("graph %d: there %v, %d, back %v, %d", i, there, e, back, backE)
			}
			node := a
			for _, k := range there {
				if !slices.Contains(d.edges[k][:], node) {
					t.Fatalf("graph %d: from %d to %d by %v", i, a, b, there)
				}
				node = d.edges[k][0] + d.edges[k][1] - node
			}
			if e == api.OK && node != b || e != api.OK && (e != api.ErrNone || there != nil) {
				t.Fatalf("graph %d: from %d to %d by %v, %d", i, a, b, there, e)
			}
		}
	}
}

// P5.1 to P5.3: nodes that are far apart.
func TestLongLine(t *testing.T) {
	d := line(1000)
	all := numbers(999)
	if l, e := graph.Bridges(d.n, d.edges); !slices.Equal(l, all) || e != api.OK {
		t.Error("bridges:", l, e)
	}
	if l, e := graph.Path(d.n, d.edges, 0, 999); !slices.Equal(l, all) || e != api.OK {
		t.Error("path:", l, e)
	}
	d.edges = append(d.edges, [2]int{999, 0})
	if l, e := graph.Cycles(d.n, d.edges); !same(l, [][]int{append([]int{999}, all...)}) || e != api.OK {
		t.Error("cycles:", l, e)
	}
	if is, e := graph.Cycle(d.n, d.edges, numbers(1000)); !is || e != api.OK {
		t.Error("cycle:", is, e)
	}
	if l, e := graph.Bridges(d.n, d.edges); len(l) != 0 || e != api.OK {
		t.Error("bridges of the ring:", l, e)
	}
}

// P5.1, P5.2: what is written into one list of a result, or behind its end, is not seen in another one, nor in the
// arguments, nor in later results.
func TestMemory(t *testing.T) {
	d := someGraph(rand.New(rand.NewSource(4)), 30, 40)
	given := slices.Clone(d.edges)
	for _, lists := range []func(n int, edges [][2]int) ([][]int, api.Errno){graph.Parts, graph.Cycles} {
		l, _ := lists(d.n, d.edges)
		var want [][]int
		for _, list := range l {
			want = append(want, slices.Clone(list))
		}
		for i := range l {
			behind := l[i][:cap(l[i])]
			for k := range behind {
				behind[k] = -1
			}
			if !same(l[i+1:], want[i+1:]) || !same(l[:i], want[:i]) {
				t.Error("lists share memory with the list", i)
			}
			copy(l[i], want[i])
		}
		if again, _ := lists(d.n, d.edges); !same(again, want) {
			t.Error(again, "instead of", want)
		}
	}
	if !slices.Equal(d.edges, given) {
		t.Error("the edges have changed")
	}
}
