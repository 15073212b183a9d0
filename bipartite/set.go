package bipartite

import "math/bits"

// set is a set of nodes of one side: the bit i is 1 if it has the node i. A side has fewer nodes than there are bits.
type set uint64

func (s set) has(i int) bool { return s>>i&1 == 1 }

func (s set) with(i int) set { return s | 1<<i }

func (s set) without(i int) set { return s &^ (1 << i) }

// each yields the nodes, ascending.
func (s set) each(yield func(i int) bool) {
	for ; s != 0; s &= s - 1 {
		if !yield(bits.TrailingZeros64(uint64(s))) {
			return
		}
	}
}

// nodes returns the nodes, ascending.
func (s set) nodes() []int {
	var list []int
	for i := range s.each {
		list = append(list, i)
	}
	return list
}
