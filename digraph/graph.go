package digraph

import (
	"cmp"
	"slices"
)

// graph has, for each node, the nodes that its edges lead to, ascending, as often as there are edges.
type graph [][]int

func newGraph(n int, edges [][2]int) graph {
	g := make(graph, n)
	for _, ends := range edges {
		g[ends[0]] = append(g[ends[0]], ends[1])
	}
	for _, nexts := range g {
		slices.Sort(nexts)
	}
	return g
}

// order returns the order; false if there is a loop.
func (g graph) order() ([]int, bool) {
	const ordered = -1
	before := make([]int, len(g)) // numbers of edges to each node from nodes that are not in the order
	for _, nexts := range g {
		for _, next := range nexts {
			before[next]++
		}
	}
	var order []int
	for range g {
		node := slices.Index(before, 0)
		if node < 0 {
			return nil, false
		}
		before[node] = ordered
		for _, next := range g[node] {
			before[next]--
		}
		order = append(order, node)
	}
	return order, true
}

// parts returns the parts, each ascending, in the order of their first nodes.
func (g graph) parts() [][]int {
	finished := len(g) + 1 // greater than all numbers of visits, so that it is never the least one
	visits := 0
	visited := make([]int, len(g)) // numbers of first visits, 0 before these, finished once the part is known
	var stack []int                // visited nodes whose parts are not known yet
	var parts [][]int
	// visit returns the least number that is found on the ways from the node on. If it is the node's own one, nothing
	// leads back behind it, and what is on the stack from it on is a part.
	var visit func(node int) int
	visit = func(node int) int {
		visits++
		number, bottom := visits, len(stack)
		visited[node] = number
		stack = append(stack, node)
		least := number
		for _, next := range g[node] {
			found := visited[next]
			if found == 0 {
				found = visit(next)
			}
			least = min(least, found)
		}
		if least == number {
			part := slices.Clone(stack[bottom:])
			stack = stack[:bottom]
			for _, member := range part {
				visited[member] = finished
			}
			slices.Sort(part)
			parts = append(parts, part)
		}
		return least
	}
	for node := range g {
		if visited[node] == 0 {
			visit(node)
		}
	}
	slices.SortFunc(parts, func(a, b []int) int { return cmp.Compare(a[0], b[0]) })
	return parts
}

// loop returns, of the shortest loops that begin with the node, the lexicographically least; the node is in a loop.
func (g graph) loop(first int) []int {
	distances := g.distances(first)
	// Of several nodes at the same distance MinFunc takes the first one, which is the least.
	nearer := func(node int) int {
		return slices.MinFunc(g[node], func(a, b int) int { return cmp.Compare(distances[a], distances[b]) })
	}
	loop := []int{first}
	for node := nearer(first); node != first; node = nearer(node) {
		loop = append(loop, node)
	}
	return loop
}

// distances returns the least numbers of edges that lead from each node to the last one; len(g), which is greater than
// all of them, for nodes that do not reach it.
func (g graph) distances(last int) []int {
	distances := slices.Repeat([]int{len(g)}, len(g))
	distances[last] = 0
	for queue := []int{last}; len(queue) > 0; queue = queue[1:] {
		for node, nexts := range g {
			if distances[node] == len(g) && slices.Contains(nexts, queue[0]) {
				distances[node] = distances[queue[0]] + 1
				queue = append(queue, node)
			}
		}
	}
	return distances
}

// reach returns the nodes that a node reaches, ascending.
func (g graph) reach(from int) []int {
	reached := make([]bool, len(g))
	var visit func(node int)
	visit = func(node int) {
		reached[node] = true
		for _, next := range g[node] {
			if !reached[next] {
				visit(next)
			}
		}
	}
	visit(from)
	var nodes []int
	for node, is := range reached {
		if is {
			nodes = append(nodes, node)
		}
	}
	return nodes
}
