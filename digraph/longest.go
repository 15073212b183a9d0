package digraph

import (
	"cmp"
	"slices"
)

// path is a path by its first node, the sum of its weights, and the rest of it, which is nil at the end.
type path struct {
	node, sum int
	rest      *path
}

// longest returns the longest path of a graph that has nodes, but no loop.
func (g graph) longest(weights []int) *path {
	paths := make([]*path, len(g)) // the longest paths from each node on, nil before they are known
	var from func(node int) *path
	from = func(node int) *path {
		if paths[node] == nil {
			p := &path{node: node, sum: weights[node]}
			for _, next := range g[node] {
				// A rest that adds nothing is left out, as a beginning of a path comes before it; of rests with the
				// same sum that one stays whose first node is the least.
				if rest := from(next); weights[node]+rest.sum > p.sum {
					p.sum, p.rest = weights[node]+rest.sum, rest
				}
			}
			paths[node] = p
		}
		return paths[node]
	}
	for node := range g {
		from(node)
	}
	// Of several ones MaxFunc takes the first one, whose first node is the least.
	return slices.MaxFunc(paths, func(a, b *path) int { return cmp.Compare(a.sum, b.sum) })
}

func (p *path) nodes() []int {
	var nodes []int
	for ; p != nil; p = p.rest {
		nodes = append(nodes, p.node)
	}
	return nodes
}
