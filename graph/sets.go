package graph

// sets is a disjoint-set forest: each node leads to another one of its set, but the first one of a set to itself.
type sets []int

// alone returns n sets of one node each.
func alone(n int) sets {
	s := make(sets, n)
	for node := range s {
		s[node] = node
	}
	return s
}

// find returns the first node of the set of a node, and halves the path to it.
func (s sets) find(node int) int {
	for s[node] != node {
		s[node] = s[s[node]]
		node = s[node]
	}
	return node
}

// join makes one set of those of a and b, and reports whether they were two.
func (s sets) join(a, b int) bool {
	a, b = s.find(a), s.find(b)
	s[max(a, b)] = min(a, b)
	return a != b
}

// parts returns the nodes of each set, ascending, in the order of their first nodes.
func (s sets) parts() [][]int {
	var parts [][]int
	place := make([]int, len(s)) // of the part of a first node
	for node := range s {
		first := s.find(node)
		if first == node {
			place[node] = len(parts)
			parts = append(parts, nil)
		}
		parts[place[first]] = append(parts[place[first]], node)
	}
	return parts
}
