package bipartite

import "slices"

// none stands for the partner of a node that has none.
const none = -1

// matching is a graph, by the neighbours of its left nodes, and a matching in it, by the partners of the nodes of both sides.
type matching struct {
	neighbours  []set
	left, right []int
}

// greatest returns some greatest matching.
func greatest(n, m int, edges [][2]int) matching {
	g := matching{neighboursOf(n, edges), slices.Repeat([]int{none}, n), slices.Repeat([]int{none}, m)}
	for g.grow(0) {
	}
	return g
}

// neighboursOf returns the neighbours of each left node.
func neighboursOf(n int, edges [][2]int) []set {
	neighbours := make([]set, n)
	for _, ends := range edges {
		neighbours[ends[0]] = neighbours[ends[0]].with(ends[1])
	}
	return neighbours
}

// clone returns a copy that shares no memory with g.
func (g matching) clone() matching {
	return matching{slices.Clone(g.neighbours), slices.Clone(g.left), slices.Clone(g.right)}
}

// join makes l and r partners, and leaves those that they had without one.
func (g matching) join(l, r int) {
	if old := g.left[l]; old != none {
		g.right[old] = none
	}
	if old := g.right[r]; old != none {
		g.left[old] = none
	}
	g.left[l], g.right[r] = r, l
}

// grow makes the matching greater by one edge along an augmenting path that goes through none of the barred right
// nodes, and reports whether there is one.
func (g matching) grow(barred set) bool {
	seen := barred
	var give func(l int) bool
	give = func(l int) bool {
		for r := range g.neighbours[l].each {
			if seen.has(r) {
				continue
			}
			seen = seen.with(r)
			if g.right[r] == none || give(g.right[r]) {
				g.join(l, r)
				return true
			}
		}
		return false
	}
	for l, r := range g.left {
		// What one search has seen in vain leads no further in the next one.
		if r == none && give(l) {
			return true
		}
	}
	return false
}

// least returns the least matching that has as many edges as g, which is a greatest one.
func (g matching) least() matching {
	var settled set
	for l, neighbours := range g.neighbours {
		for r := range (neighbours &^ settled).each {
			if other, ok := g.including(l, r, settled); ok {
				g = other
				settled = settled.with(r)
				break
			}
		}
	}
	return g
}

// including returns a matching that has as many edges as g, the same ones at the settled right nodes, and the edge from
// l to r; false if there is none. Left nodes before l that had to stay without partners have none in it either: else
// they would have found them in their turn.
func (g matching) including(l, r int, settled set) (matching, bool) {
	if g.left[l] == r {
		return g, true
	}
	// As g is a greatest one, l or r has a partner; if both have, the edge takes the place of two.
	lost := g.left[l] != none && g.right[r] != none
	other := g.clone()
	other.join(l, r)
	if lost && !other.grow(settled.with(r)) {
		return matching{}, false
	}
	return other, true
}

// needs reports whether without the edge from l to r, which is in the greatest matching g, no matching has as many edges.
func (g matching) needs(l, r int) bool {
	other := g.clone()
	other.neighbours[l] = other.neighbours[l].without(r)
	other.left[l], other.right[r] = none, none
	return !other.grow(0)
}

// open returns the open left and right nodes; g is a greatest matching. They are those to which alternating paths lead
// from the left nodes without partners.
func (g matching) open() (left, right set) {
	var visit func(l int)
	visit = func(l int) {
		left = left.with(l)
		for r := range g.neighbours[l].each {
			// Each right node that is come to has a partner, for else the matching could grow.
			if !right.has(r) {
				right = right.with(r)
				visit(g.right[r])
			}
		}
	}
	for l, r := range g.left {
		if r == none {
			visit(l)
		}
	}
	return left, right
}
