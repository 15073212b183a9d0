package program_test

import (
	"math/big"
	"math/rand"
	"slices"
	"testing"

	"stirrup/api"
	"stirrup/program"
)

// isFitting reports whether a program fits, by the definition.
func isFitting(p api.Program) bool {
	product, most := big.NewInt(1), big.NewInt(1)
	take := func(numbers ...int) {
		factor := big.NewInt(1)
		for _, n := range numbers {
			factor.Add(factor, big.NewInt(int64(max(n, -n))))
		}
		product.Mul(product, factor)
		if factor.Cmp(most) > 0 {
			most = factor
		}
	}
	take(p.Cost...)
	for _, w := range p.Rows {
		take(append(slices.Clone(w.Coefs), w.Right)...)
	}
	return product.Cmp(big.NewInt(1<<44)) <= 0 && product.Mul(product, most).Cmp(big.NewInt(1<<57)) <= 0
}

// proven reports whether an answer is right, and fits in all sums, by the definitions.
func proven(p api.Program, a api.Answer) bool {
	if len(a.X) != len(p.Cost) || len(a.Y) != len(p.Rows) {
		return false
	}
	feasible, fit := isFeasible(p, a.X)
	value, small := sum(p.Cost, a.X)
	below, bound, little := isBelow(p, a.Y, p.Cost)
	return feasible && below && fit && small && little && value.Cmp(rat(a.Value)) == 0 && bound.Cmp(value) == 0
}

// refutes reports whether multipliers refute a program, and fit in all sums, by the definitions.
func refutes(p api.Program, y []api.Frac) bool {
	if len(y) != len(p.Rows) {
		return false
	}
	below, bound, fit := isBelow(p, y, make([]int, len(p.Cost)))
	return below && fit && bound.Sign() > 0
}

// ray returns the program of the ways along which feasible points stay feasible, and values go down by 1.
func ray(p api.Program) api.Program {
	q := copied(p)
	for i := range q.Rows {
		q.Rows[i].Right = 0
	}
	q.Rows = append(q.Rows, row(api.Equal, -1, p.Cost...))
	clear(q.Cost)
	return q
}

// checkSolved checks what Solve and Farkas return for a program that fits; it returns the error of Solve.
func checkSolved(t *testing.T, p api.Program) (api.Answer, api.Errno) {
	t.Helper()
	before := copied(p)
	a, e := program.Solve(p)
	y, g := program.Farkas(p)
	if !samePrograms(p, before) {
		t.Fatalf("%v has been changed", before)
	}
	if e == api.OK {
		ok, h := program.Check(p, a)
		if !proven(p, a) || !ok || h != api.OK {
			t.Fatalf("Solve(%v) = %v, which is not proved, or checked as %t, %d", p, a, ok, h)
		}
	} else if a.Value != f(0, 0) || a.X != nil || a.Y != nil {
		t.Fatalf("Solve(%v) = %v, with an error", p, a)
	}
	if g == api.OK {
		ok, h := program.Refutes(p, y)
		if !refutes(p, y) || !ok || h != api.OK {
			t.Fatalf("Farkas(%v) = %v, which does not refute it, or is checked as %t, %d", p, y, ok, h)
		}
	} else if y != nil {
		t.Fatalf("Farkas(%v) = %v, with an error", p, y)
	}
	switch {
	case e == api.ErrGap && g == api.OK, e == api.OK && g == api.ErrNone, e == api.ErrFree && g == api.ErrNone:
	case e == api.ErrBig && g == api.ErrBig && !isFitting(p):
	default:
		t.Fatalf("%v: Solve says %d, Farkas %d", p, e, g)
	}
	return a, e
}

// corner returns the point in which all these equations hold, the right side of each being its last number; nil if
// there is none, or more than one.
func corner(equations [][]*big.Rat) []*big.Rat {
	n := len(equations)
	for c := range n {
		r := c
		for r < n && equations[r][c].Sign() == 0 {
			r++
		}
		if r == n {
			return nil
		}
		equations[c], equations[r] = equations[r], equations[c]
		for i := range n {
			if i == c || equations[i][c].Sign() == 0 {
				continue
			}
			times := new(big.Rat).Quo(equations[i][c], equations[c][c])
			for j := range equations[i] {
				equations[i][j] = new(big.Rat).Sub(equations[i][j], new(big.Rat).Mul(times, equations[c][j]))
			}
		}
	}
	x := make([]*big.Rat, n)
	for c := range n {
		x[c] = new(big.Rat).Quo(equations[c][n], equations[c][c])
	}
	return x
}

// lowest goes through all corners of a program, and returns the least value of the feasible ones, or nil.
func lowest(p api.Program) *big.Rat {
	n := len(p.Cost)
	var walls [][]int
	for j := range n {
		wall := make([]int, n+1)
		wall[j] = 1
		walls = append(walls, wall)
	}
	for _, w := range p.Rows {
		walls = append(walls, append(slices.Clone(w.Coefs), w.Right))
	}
	var least *big.Rat
	for set := range 1 << len(walls) {
		var equations [][]*big.Rat
		for i, wall := range walls {
			if set>>i&1 == 1 {
				equations = append(equations, nil)
				for _, n := range wall {
					equations[len(equations)-1] = append(equations[len(equations)-1], whole(n))
				}
			}
		}
		if len(equations) != n {
			continue
		}
		if v := valueIn(p, corner(equations)); v != nil && (least == nil || v.Cmp(least) < 0) {
			least = v
		}
	}
	return least
}

// valueIn returns the value in a point, or nil if it is not feasible.
func valueIn(p api.Program, x []*big.Rat) *big.Rat {
	dot := func(numbers []int) *big.Rat {
		s := new(big.Rat)
		for j, n := range numbers {
			s.Add(s, new(big.Rat).Mul(whole(n), x[j]))
		}
		return s
	}
	if x == nil || slices.ContainsFunc(x, func(a *big.Rat) bool { return a.Sign() < 0 }) {
		return nil
	}
	for _, w := range p.Rows {
		if !holds(w, dot(w.Coefs)) {
			return nil
		}
	}
	return dot(p.Cost)
}

// known returns the least value that the corners tell, or the error. If there is a feasible point, there is a
// feasible corner; and if values go down without a bound, they do along a corner of the ways of the sum 1.
func known(p api.Program) (*big.Rat, api.Errno) {
	least := lowest(p)
	if least == nil {
		return nil, api.ErrGap
	}
	ways := copied(p)
	for i := range ways.Rows {
		ways.Rows[i].Right = 0
	}
	ways.Rows = append(ways.Rows, row(api.Equal, 1, slices.Repeat([]int{1}, len(p.Cost))...))
	if down := lowest(ways); down != nil && down.Sign() < 0 {
		return nil, api.ErrFree
	}
	return least, api.OK
}

// checkKnown compares what is found for a program with what its corners tell.
func checkKnown(t *testing.T, p api.Program) api.Errno {
	t.Helper()
	a, e := checkSolved(t, p)
	least, want := known(p)
	if e != want || e == api.OK && rat(a.Value).Cmp(least) != 0 {
		t.Fatalf("Solve(%v) = %v, %d; want %v, %d", p, a, e, least, want)
	}
	return e
}

// P4.2, P4.4, P4.6
func TestAllSmallPrograms(t *testing.T) {
	rows := []api.Row{}
	for kind := api.AtMost; kind <= api.Equal; kind++ {
		for coef := -2; coef <= 2; coef++ {
			for right := -2; right <= 2; right++ {
				rows = append(rows, row(kind, right, coef))
			}
		}
	}
	for cost := -1; cost <= 1; cost++ {
		checkKnown(t, lp([]int{cost}))
		for _, a := range rows {
			checkKnown(t, lp([]int{cost}, a))
			for _, b := range rows {
				checkKnown(t, lp([]int{cost}, a, b))
			}
		}
	}
}

// P4.2, P4.4, P4.6
func TestSmallPrograms(t *testing.T) {
	r := rand.New(rand.NewSource(2))
	seen := map[api.Errno]int{}
	for range 6000 {
		n, m := 1+r.Intn(4), r.Intn(5)
		if n+m > 6 {
			continue
		}
		seen[checkKnown(t, someProgram(r, n, m, 1+r.Intn(3), r.Intn(4)))]++
	}
	if seen[api.OK] < 500 || seen[api.ErrGap] < 500 || seen[api.ErrFree] < 500 {
		t.Error("too few of one sort:", seen)
	}
}

// largeProgram returns a program that fits, often just so: its factors are near to powers of two that fit.
func largeProgram(r *rand.Rand, n, m int) api.Program {
	for {
		p := lp(nil)
		left := 44
		for i := range m + 1 {
			bits := r.Intn(min(left, 24)/2 + 1)
			if i == m {
				bits = min(left, 57-44)
			} else if r.Intn(3) == 0 {
				bits = min(left, 44/(m+1))
			}
			left -= bits
			numbers := make([]int, n+1)
			for room := 1<<bits - 1; room > 0; {
				part := min(room, 1+r.Intn(1<<bits))
				room -= part
				if r.Intn(2) == 0 {
					part = -part
				}
				numbers[r.Intn(n+1)] += part
			}
			if i < m {
				p.Rows = append(p.Rows, row(1+r.Intn(3), numbers[n], numbers[:n]...))
			} else {
				p.Cost = numbers[:n]
			}
		}
		if program.Valid(p) && isFitting(p) {
			return p
		}
	}
}

// P4.2, P4.4, P4.6
func TestLargePrograms(t *testing.T) {
	r := rand.New(rand.NewSource(3))
	seen := map[api.Errno]int{}
	for range 30000 {
		p := largeProgram(r, 1+r.Intn(12), 1+r.Intn(6))
		_, e := checkSolved(t, p)
		seen[e]++
		if e == api.ErrBig {
			t.Fatalf("Solve(%v) = ErrBig", p)
		}
		if e != api.ErrFree || len(p.Rows) == 6 {
			continue
		}
		// There is no least value, because there are a feasible point, and a way down.
		if q := ray(p); isFitting(q) {
			if _, e := checkSolved(t, q); e != api.OK {
				t.Fatalf("Solve(%v) = ErrFree, but no way leads down", p)
			}
		}
	}
	if seen[api.OK] < 1000 || seen[api.ErrGap] < 1000 || seen[api.ErrFree] < 1000 {
		t.Error("too few of one sort:", seen)
	}
}

// P4.2
func TestKnownPrograms(t *testing.T) {
	one := []int{1}
	for i, c := range []struct {
		p api.Program
		v api.Frac
		e api.Errno
	}{
		{chapter(), f(-14, 5), api.OK},
		{refuted(), api.Frac{}, api.ErrGap},
		{lp([]int{0}), f(0, 1), api.OK},
		{lp([]int{1 << 20, 0, 5}), f(0, 1), api.OK},
		{lp([]int{5, -1}), api.Frac{}, api.ErrFree},
		// rows without coefficients
		{lp(one, row(api.AtMost, 0, 0)), f(0, 1), api.OK},
		{lp(one, row(api.AtMost, -1, 0)), api.Frac{}, api.ErrGap},
		{lp(one, row(api.AtLeast, 1, 0)), api.Frac{}, api.ErrGap},
		{lp(one, row(api.Equal, 0, 0), row(api.AtLeast, 2, 3)), f(2, 3), api.OK},
		// ErrGap comes before ErrFree
		{lp([]int{-1, -1}, row(api.AtLeast, 1, 0, 0)), api.Frac{}, api.ErrGap},
		// negative right sides
		{lp(one, row(api.AtMost, -3, -2)), f(3, 2), api.OK},
		{lp(one, row(api.Equal, -3, -2)), f(3, 2), api.OK},
		{lp([]int{-1}, row(api.AtLeast, -3, -2)), f(-3, 2), api.OK},
		// rows that follow from others, with gaps that no column replaces
		{lp([]int{1, 2, 3}, row(api.Equal, 2, 1, 1, 0), row(api.Equal, 3, 0, 1, 1), row(api.Equal, 5, 1, 2, 1), row(api.Equal, -1, 1, 0, -1)), f(7, 1), api.OK},
		{lp([]int{-1, -1}, row(api.Equal, 0, 1, -1), row(api.Equal, 0, -1, 1)), api.Frac{}, api.ErrFree},
		// gaps that are 0 but must not grow again
		{lp([]int{-1, 0}, row(api.Equal, 0, -1, 1), row(api.AtMost, 5, 0, 1)), f(-5, 1), api.OK},
		{lp([]int{0, -1}, row(api.Equal, 0, -1, 1), row(api.AtMost, 5, 1, 0), row(api.Equal, 0, 0, 0)), f(-5, 1), api.OK},
		// Beale's program, in whole numbers: without care the steps go round in a circle
		{lp([]int{-75, 15000, -2, 600}, row(api.AtMost, 0, 25, -6000, -4, 900), row(api.AtMost, 0, 25, -4500, -1, 150), row(api.AtMost, 1, 0, 0, 1, 0)), f(-5, 1), api.OK},
		// one that goes round where not the row with the least column leaves
		{lp([]int{-4, -4, -3, 5, 3}, row(api.AtMost, 0, -5, -3, 5, 2, -3), row(api.AtMost, 0, -2, 1, 4, -1, 3), row(api.AtMost, 0, 3, 4, -5, 3, 1), row(api.AtMost, 0, 3, 2, -3, 5, 4), row(api.AtMost, 0, -4, -4, 0, 2, 0)), f(0, 1), api.OK},
		// one that goes round where the column with the greatest cost enters
		{lp([]int{-10, 57, 9, 24}, row(api.AtMost, 0, 1, -11, -5, 18), row(api.AtMost, 0, 1, -3, -1, 2), row(api.AtMost, 1, 1, 0, 0, 0)), f(-1, 1), api.OK},
	} {
		a, e := checkSolved(t, c.p)
		if a.Value != c.v || e != c.e {
			t.Errorf("case %d: %v, %d", i, a, e)
		}
	}
	a, _ := program.Solve(chapter())
	if !slices.Equal(a.X, []api.Frac{f(8, 5), f(6, 5)}) || !slices.Equal(a.Y, []api.Frac{f(-2, 5), f(-1, 5)}) {
		t.Error(a)
	}
}

// P4.2, P4.4
func TestFits(t *testing.T) {
	// sized returns a program of one variable, the cost and the rows of which have these factors.
	sized := func(cost int, rows ...int) api.Program {
		p := lp([]int{cost - 1})
		for i, n := range rows {
			coef := min(n-1, 1<<i)
			p.Rows = append(p.Rows, row(api.AtMost, n-1-coef, coef))
		}
		return p
	}
	for i, c := range []struct {
		p   api.Program
		fit bool
	}{
		{sized(1<<13, 1<<13, 1<<13, 1<<5), true},
		{sized(1<<5, 1<<13, 1<<13, 1<<13), true},
		{sized(1<<13, 1<<13, 1<<13, 1<<5+1), false},
		{sized(1<<13, 1<<13, 1<<13+1, 1<<5), false},
		{sized(1<<11, 1<<11, 1<<11, 1<<11), true},
		{sized(1<<11, 1<<11, 1<<11, 1<<11+1), false},
		{sized(1<<11+1, 1<<11, 1<<11, 1<<11), false},
		{sized(1<<14, 1<<14, 1<<14, 1<<1), true},
		{sized(1<<1, 1<<14, 1<<14, 1<<14), true},
		{sized(1<<14, 1<<14, 1<<14, 1<<2), false},
		{sized(1<<14+1, 1<<14, 1<<14, 1<<1), false},
		{sized(2, 1<<28), true},
		{sized(3, 1<<28), false},
		{sized(1, 1<<28), true},
		{sized(1, 1<<29), false},
		{sized(1<<20, 1<<17), true},
		{sized(1<<20, 1<<17+1), false},
		{sized(1<<20+1, 1<<15), true},
		{sized(1<<20+1, 1<<17), false},
		{sized(4, 1<<7, 1<<7, 1<<7, 1<<7, 1<<7, 1<<7), true},
		{sized(5, 1<<7, 1<<7, 1<<7, 1<<7, 1<<7, 1<<7), false},
		{lp([]int{1 << 20, -1 << 20, 1 << 20}), true},
		{lp(slices.Repeat([]int{1 << 20}, 12)), true},
		{lp([]int{1}, slices.Repeat([]api.Row{row(api.AtLeast, 1<<30, 1<<20)}, 6)...), false},
		{lp([]int{-1}, row(api.AtMost, -1<<30, -1<<20), row(api.Equal, -1<<30, -1<<20), row(api.Equal, -1<<30, -1<<20)), false},
	} {
		_, e := checkSolved(t, c.p)
		if isFitting(c.p) != c.fit || (e != api.ErrBig) != c.fit {
			t.Errorf("case %d: %d", i, e)
		}
	}
	for i, p := range invalidPrograms() {
		a, e := program.Solve(p)
		y, g := program.Farkas(p)
		if e != api.ErrArg || a.Value != f(0, 0) || a.X != nil || a.Y != nil || g != api.ErrArg || y != nil {
			t.Errorf("case %d: %v, %d, %v, %d", i, a, e, y, g)
		}
	}
}
