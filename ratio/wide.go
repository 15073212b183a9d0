package ratio

import (
	"cmp"
	"math/bits"
)

// wide is a whole number: its absolute value in two words, and whether it is negative.
type wide struct {
	minus  bool
	hi, lo uint64
}

// times returns a * b, for a b that is not 0.
func times(a int, b uint64) wide {
	hi, lo := bits.Mul64(size(a), b)
	return wide{a < 0, hi, lo}
}

// plus returns v + w, of which the absolute value must fit into two words.
func (v wide) plus(w wide) wide {
	if v.minus == w.minus {
		lo, carry := bits.Add64(v.lo, w.lo, 0)
		return wide{v.minus, v.hi + w.hi + carry, lo}
	}
	switch v.order(w) {
	case 0:
		return wide{}
	case -1:
		v, w = w, v
	}
	lo, borrow := bits.Sub64(v.lo, w.lo, 0)
	return wide{v.minus, v.hi - w.hi - borrow, lo}
}

// order compares the absolute values of v and w.
func (v wide) order(w wide) int {
	return cmp.Or(cmp.Compare(v.hi, w.hi), cmp.Compare(v.lo, w.lo))
}

// sign returns -1, 0, or 1, if v is less than, equal to, or greater than 0.
func (v wide) sign() int {
	if v.minus {
		return -1
	}
	return v.order(wide{})
}

// modulo returns what is left of the absolute value of v, if n is taken away as often as possible.
func (v wide) modulo(n uint64) uint64 { return bits.Rem64(v.hi, v.lo, n) }

// over returns the absolute value of v divided by n, and whether that fits into a word.
func (v wide) over(n uint64) (uint64, bool) {
	if v.hi >= n {
		return 0, false
	}
	whole, _ := bits.Div64(v.hi, v.lo, n)
	return whole, true
}
