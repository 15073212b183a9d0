package subsets

import "math/bits"

// subset is a subset of a list: the bit i is 1 if it has the index i.
type subset uint

// subsetOf returns the subset with the listed indices; false if they do not ascend, or are not those of n numbers.
func subsetOf(list []int, n int) (subset, bool) {
	var s subset
	for k, i := range list {
		if i < 0 || i >= n || k > 0 && i <= list[k-1] {
			return 0, false
		}
		s |= 1 << i
	}
	return s, true
}

// indices returns the indices, ascending.
func (s subset) indices() []int {
	var list []int
	for ; s != 0; s &^= s.start() {
		list = append(list, bits.TrailingZeros(uint(s)))
	}
	return list
}

// start returns the subset that has the first index only; it is empty if s is.
func (s subset) start() subset { return s & -s }

// before reports whether s comes before other: it has fewer indices, or as many and is first lexicographically.
func (s subset) before(other subset) bool {
	size, otherSize := bits.OnesCount(uint(s)), bits.OnesCount(uint(other))
	return size < otherSize || size == otherSize && s.precedes(other)
}

// precedes reports whether s is first lexicographically; neither of two different ones may be a beginning of the other.
func (s subset) precedes(other subset) bool { return s&(s^other).start() != 0 }
