package ratio_test

import (
	"math/rand"
	"testing"

	"stirrup/api"
	"stirrup/ratio"
)

// same reports whether two ways to a result agree, as far as the results on both fit.
func same(a, b api.Frac) bool { return a == b || a.Den == 0 || b.Den == 0 }

// Each of the following is 0/0, which is no fraction, if a result does not fit, and so is what it is put into.
func add(a, b api.Frac) api.Frac { c, _ := ratio.Add(a, b); return c }
func sub(a, b api.Frac) api.Frac { c, _ := ratio.Sub(a, b); return c }
func mul(a, b api.Frac) api.Frac { c, _ := ratio.Mul(a, b); return c }
func div(a, b api.Frac) api.Frac { c, _ := ratio.Div(a, b); return c }

// P2.6
func TestLaws(t *testing.T) {
	r := rand.New(rand.NewSource(5))
	l := someFractions(300)
	one := func() api.Frac { return l[r.Intn(len(l))] }
	for range 50000 {
		a, b, c := one(), one(), one()
		for i, holds := range []bool{
			same(add(a, b), add(b, a)),
			same(mul(a, b), mul(b, a)),
			same(add(add(a, b), c), add(a, add(b, c))),
			same(mul(mul(a, b), c), mul(a, mul(b, c))),
			same(mul(a, add(b, c)), add(mul(a, b), mul(a, c))),
			same(sub(add(a, b), b), a),
			same(add(sub(a, b), b), a),
			b.Num == 0 || same(div(mul(a, b), b), a),
			b.Num == 0 || same(mul(div(a, b), b), a),
		} {
			if !holds {
				t.Errorf("law %d does not hold for %v, %v, %v", i, a, b, c)
			}
		}
	}
}

// P2.6
func TestOrder(t *testing.T) {
	r := rand.New(rand.NewSource(6))
	l := someFractions(300)
	one := func() api.Frac { return l[r.Intn(len(l))] }
	kept := func(name string, order int, a, b, c, x, y api.Frac) {
		if x.Den == 0 || y.Den == 0 {
			return
		}
		if got, e := ratio.Cmp(x, y); got != order || e != api.OK {
			t.Errorf("%s with %v: the order of %v and %v is not kept", name, c, a, b)
		}
	}
	for range 50000 {
		a, b, c := one(), one(), one()
		order, _ := ratio.Cmp(a, b)
		if back, _ := ratio.Cmp(b, a); back != -order {
			t.Errorf("Cmp(%v, %v) = %d, but %d the other way", a, b, order, back)
		}
		kept("Add", order, a, b, c, add(a, c), add(b, c))
		if c.Num > 0 {
			kept("Mul", order, a, b, c, mul(a, c), mul(b, c))
		}
		lo, _ := ratio.Floor(a)
		hi, _ := ratio.Ceil(a)
		below, _ := ratio.Cmp(f(lo, 1), a)
		above, _ := ratio.Cmp(a, f(hi, 1))
		if below > 0 || above > 0 || hi-lo < 0 || hi-lo > 1 {
			t.Errorf("%v is not between %d and %d", a, lo, hi)
		}
	}
}
