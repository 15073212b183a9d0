package program

import (
	"cmp"
	"math/bits"

	"stirrup/api"
	"stirrup/ratio"
)

// number is a whole number: its absolute value, and whether it is negative. There is one zero, which is not.
type number struct {
	minus bool
	size  uint64
}

// numberOf returns n, which is not the least int, as a number.
func numberOf(n int) number { return number{n < 0, uint64(max(n, -n))} }

// numbersOf returns all these as numbers.
func numbersOf(l []int) []number {
	numbers := make([]number, len(l))
	for i, n := range l {
		numbers[i] = numberOf(n)
	}
	return numbers
}

// opposite returns -n.
func (n number) opposite() number { return number{n.size > 0 && !n.minus, n.size} }

// over returns n / under, both of which are within the limits of fractions.
func (n number) over(under uint64) api.Frac {
	num := int(n.size)
	if n.minus {
		num = -num
	}
	a, _ := ratio.Make(num, int(under))
	return a
}

// pair is the absolute value of a product of two numbers, in two words.
type pair struct{ hi, lo uint64 }

// product returns the absolute value of a * b.
func product(a, b number) pair {
	hi, lo := bits.Mul64(a.size, b.size)
	return pair{hi, lo}
}

// order compares v and w.
func (v pair) order(w pair) int {
	return cmp.Or(cmp.Compare(v.hi, w.hi), cmp.Compare(v.lo, w.lo))
}

// cross returns (a * b - c * d) / under, which must be a whole number, and fit into a word.
func cross(a, b, c, d number, under uint64) number {
	v, w := product(a, b), product(c, d)
	minus := a.minus != b.minus
	var carry uint64
	if minus != (c.minus != d.minus) {
		v.lo, carry = bits.Add64(v.lo, w.lo, 0)
		v.hi, _ = bits.Add64(v.hi, w.hi, carry)
	} else {
		if v.order(w) < 0 {
			v, w, minus = w, v, !minus
		}
		v.lo, carry = bits.Sub64(v.lo, w.lo, 0)
		v.hi, _ = bits.Sub64(v.hi, w.hi, carry)
	}
	size, _ := bits.Div64(v.hi, v.lo, under)
	return number{minus && size > 0, size}
}
