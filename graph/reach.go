package graph

import "slices"

// reach tells, for some edges of a graph, how far nodes are from where a search along them began.
type reach struct {
	edges    [][2]int
	edgesOf  [][]int // of each node, ascending
	distance []int   // of each node, -1 if it has not been reached
}

// newReach returns a reach for the listed edges, in which no node has been reached.
func newReach(n int, edges [][2]int, list []int) reach {
	return reach{edges, around(n, edges, list), slices.Repeat([]int{-1}, n)}
}

// spread reaches all nodes that are joined to start, the nearest ones first.
func (r reach) spread(start int) {
	r.distance[start] = 0
	for queue := []int{start}; len(queue) > 0; queue = queue[1:] {
		node := queue[0]
		for _, i := range r.edgesOf[node] {
			if next := far(r.edges[i], node); r.distance[next] < 0 {
				r.distance[next] = r.distance[node] + 1
				queue = append(queue, next)
			}
		}
	}
}

// nearer returns the first edge that leads from a node nearer to the start.
func (r reach) nearer(node int) int {
	at := slices.IndexFunc(r.edgesOf[node], func(i int) bool {
		return r.distance[far(r.edges[i], node)] < r.distance[node]
	})
	return r.edgesOf[node][at]
}

// walker returns a function that lists the edges in the forest from one of two joined nodes to the other one.
func walker(n int, edges [][2]int, forest []int) func(from, to int) []int {
	r := newReach(n, edges, forest)
	for node := range n {
		if r.distance[node] < 0 {
			r.spread(node)
		}
	}
	return func(from, to int) []int {
		var there, back []int // the edges up from both nodes, until they meet
		for from != to {
			if r.distance[from] >= r.distance[to] {
				i := r.nearer(from)
				there = append(there, i)
				from = far(edges[i], from)
			} else {
				i := r.nearer(to)
				back = append(back, i)
				to = far(edges[i], to)
			}
		}
		slices.Reverse(back)
		return append(there, back...)
	}
}

// around returns, for each node, which of the listed edges it has, in the order of the list.
func around(n int, edges [][2]int, list []int) [][]int {
	edgesOf := make([][]int, n)
	for _, i := range list {
		for _, node := range edges[i] {
			edgesOf[node] = append(edgesOf[node], i)
		}
	}
	return edgesOf
}

// indices returns the indices of all edges.
func indices(edges [][2]int) []int {
	list := make([]int, len(edges))
	for i := range list {
		list[i] = i
	}
	return list
}
