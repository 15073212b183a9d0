package program_test

import (
	"math"
	"math/big"
	"math/rand"
	"slices"
	"testing"

	"stirrup/api"
	"stirrup/program"
)

const greatest = 1 << 60

func f(num, den int) api.Frac { return api.Frac{Num: num, Den: den} }

func row(kind, right int, coefs ...int) api.Row {
	return api.Row{Coefs: coefs, Kind: kind, Right: right}
}

func lp(cost []int, rows ...api.Row) api.Program { return api.Program{Cost: cost, Rows: rows} }

// chapter is the example of the chapter.
func chapter() api.Program {
	return lp([]int{-1, -1}, row(api.AtMost, 4, 1, 2), row(api.AtMost, 6, 3, 1))
}

// refuted is the other example: no x is at least 3 and at most 2.
func refuted() api.Program { return lp([]int{1}, row(api.AtLeast, 3, 1), row(api.AtMost, 2, 1)) }

// copied returns a program with the same numbers in other memory.
func copied(p api.Program) api.Program {
	c := lp(slices.Clone(p.Cost))
	for _, w := range p.Rows {
		c.Rows = append(c.Rows, row(w.Kind, w.Right, slices.Clone(w.Coefs)...))
	}
	return c
}

func samePrograms(p, q api.Program) bool {
	return slices.Equal(p.Cost, q.Cost) && slices.EqualFunc(p.Rows, q.Rows, func(a, b api.Row) bool {
		return a.Kind == b.Kind && a.Right == b.Right && slices.Equal(a.Coefs, b.Coefs)
	})
}

// invalidPrograms are programs that break one rule each.
func invalidPrograms() []api.Program {
	return []api.Program{
		{},
		lp(nil, row(api.AtMost, 1)),
		lp(make([]int, 13)),
		lp([]int{1<<20 + 1}), lp([]int{0, -1<<20 - 1}), lp([]int{math.MaxInt}), lp([]int{math.MinInt}),
		lp([]int{1}, slices.Repeat([]api.Row{row(api.AtMost, 1, 1)}, 7)...),
		lp([]int{1}, row(api.AtMost, 1)), lp([]int{1}, row(api.AtMost, 1, 1, 1)), lp([]int{1, 2}, row(api.AtMost, 1, 1)),
		lp([]int{1}, row(0, 1, 1)), lp([]int{1}, row(4, 1, 1)), lp([]int{1}, row(-1, 1, 1)), lp([]int{1}, row(math.MinInt, 1, 1)),
		lp([]int{1}, row(api.Equal, 1<<30+1, 1)), lp([]int{1}, row(api.Equal, -1<<30-1, 1)), lp([]int{1}, row(api.Equal, math.MinInt, 1)),
		lp([]int{1}, row(api.Equal, math.MaxInt, 1)),
		lp([]int{1}, row(api.Equal, 1, 1<<20+1)), lp([]int{1, 1}, row(api.Equal, 1, 1, -1<<20-1)),
		lp([]int{1}, row(api.Equal, 1, 1), row(api.Equal, 1, math.MinInt)), lp([]int{1}, row(api.Equal, 1, 1), row(api.Equal, 1)),
	}
}

// invalidFractions are no valid fractions.
var invalidFractions = []api.Frac{{}, f(2, 4), f(1, 0), f(1, -1), f(0, 2), f(greatest+1, 1), f(1, greatest+1), f(math.MinInt, 1)}

func rat(a api.Frac) *big.Rat { return big.NewRat(int64(a.Num), int64(a.Den)) }

func whole(n int) *big.Rat { return big.NewRat(int64(n), 1) }

func isWithin(x *big.Rat) bool {
	limit := big.NewInt(greatest)
	return x.Num().CmpAbs(limit) <= 0 && x.Denom().Cmp(limit) <= 0
}

// sum returns the sum of numbers times fractions, and whether all results on the way fit.
func sum(numbers []int, l []api.Frac) (*big.Rat, bool) {
	s, fit := new(big.Rat), true
	for i, n := range numbers {
		part := whole(n)
		part.Mul(part, rat(l[i]))
		s.Add(s, part)
		fit = fit && isWithin(part) && isWithin(s)
	}
	return s, fit
}

func column(p api.Program, j int) []int {
	var l []int
	for _, w := range p.Rows {
		l = append(l, w.Coefs[j])
	}
	return l
}

func rights(p api.Program) []int {
	var l []int
	for _, w := range p.Rows {
		l = append(l, w.Right)
	}
	return l
}

// holds reports whether a row with this sum is satisfied.
func holds(w api.Row, s *big.Rat) bool {
	order := s.Cmp(whole(w.Right))
	return order == 0 || w.Kind == api.AtMost && order < 0 || w.Kind == api.AtLeast && order > 0
}

// isFeasible reports whether x is a feasible point of p, and whether all results on the way fit.
func isFeasible(p api.Program, x []api.Frac) (feasible, fit bool) {
	feasible, fit = true, true
	for _, a := range x {
		feasible = feasible && a.Num >= 0
	}
	for _, w := range p.Rows {
		s, small := sum(w.Coefs, x)
		feasible, fit = feasible && holds(w, s), fit && small
	}
	return feasible, fit
}

// isBelow reports whether the multipliers y are right, and the sums of all columns at most these limits; it returns
// the sum of the right sides, and whether all results on the way fit.
func isBelow(p api.Program, y []api.Frac, limits []int) (below bool, bound *big.Rat, fit bool) {
	below = true
	for i, w := range p.Rows {
		below = below && (w.Kind != api.AtMost || y[i].Num <= 0) && (w.Kind != api.AtLeast || y[i].Num >= 0)
	}
	bound, fit = sum(rights(p), y)
	for j, limit := range limits {
		s, small := sum(column(p, j), y)
		below, fit = below && s.Cmp(whole(limit)) <= 0, fit && small
	}
	return below, bound, fit
}

// judged returns what a check that finds this should return.
func judged(is, fit bool) (bool, api.Errno) {
	if !fit {
		return false, api.ErrBig
	}
	return is, api.OK
}

// someProgram returns a program with n variables and m rows, and numbers up to these.
func someProgram(r *rand.Rand, n, m, coef, right int) api.Program {
	numbers := func() []int {
		l := make([]int, n)
		for j := range l {
			l[j] = r.Intn(2*coef+1) - coef
		}
		return l
	}
	p := lp(numbers())
	for range m {
		p.Rows = append(p.Rows, row(1+r.Intn(3), r.Intn(2*right+1)-right, numbers()...))
	}
	return p
}

// someFractions returns n fractions, the numbers of which may have as many bits.
func someFractions(r *rand.Rand, n, bits int) []api.Frac {
	l := make([]api.Frac, n)
	for i := range l {
		a := big.NewRat(r.Int63n(1<<r.Intn(bits+1)+1), 1+r.Int63n(1<<r.Intn(bits+1)))
		if r.Intn(4) == 0 {
			a.Neg(a)
		}
		l[i] = f(int(a.Num().Int64()), int(a.Denom().Int64()))
	}
	return l
}

// P4.1
func TestValid(t *testing.T) {
	for i, p := range []api.Program{
		chapter(), refuted(), lp([]int{0}), lp(make([]int, 12)), lp([]int{1 << 20, -1 << 20}),
		lp([]int{1}, slices.Repeat([]api.Row{row(api.AtMost, 1, 1)}, 6)...),
		lp([]int{1, 1}, row(api.AtMost, 1<<30, 1<<20, -1<<20), row(api.Equal, -1<<30, -1<<20, 1<<20), row(api.AtLeast, 0, 0, 0)),
	} {
		if !program.Valid(p) {
			t.Errorf("program %d is not valid", i)
		}
	}
	for i, p := range invalidPrograms() {
		if program.Valid(p) {
			t.Errorf("program %d is valid", i)
		}
	}
}

// P4.1
func TestPointsOfPrograms(t *testing.T) {
	r := rand.New(rand.NewSource(1))
	seen := map[api.Errno]int{}
	feasibles := 0
	for range 20000 {
		p := someProgram(r, 1+r.Intn(4), r.Intn(5), 1<<r.Intn(21), 1<<r.Intn(31))
		x := someFractions(r, len(p.Cost), []int{2, 10, 30, 60}[r.Intn(4)])
		want, wantE := judged(isFeasible(p, x))
		if is, e := program.Feasible(p, x); is != want || e != wantE {
			t.Fatalf("Feasible(%v, %v) = %t, %d; want %t, %d", p, x, is, e, want, wantE)
		}
		value, fit := sum(p.Cost, x)
		v, e := program.Value(p, x)
		if !fit && (v != f(0, 0) || e != api.ErrBig) || fit && (e != api.OK || rat(v).Cmp(value) != 0) {
			t.Fatalf("Value(%v, %v) = %v, %d; want %v, %t", p, x, v, e, value, fit)
		}
		seen[wantE]++
		if want {
			feasibles++
		}
	}
	if seen[api.OK] < 1000 || seen[api.ErrBig] < 1000 || feasibles < 1000 {
		t.Error("too few of one sort:", seen, feasibles)
	}
}

// P4.1
func TestEdgesOfPoints(t *testing.T) {
	for i, c := range []struct {
		p    api.Program
		x    []api.Frac
		want bool
		e    api.Errno
	}{
		{lp([]int{1}), []api.Frac{f(0, 1)}, true, api.OK},
		{lp([]int{1}), []api.Frac{f(-1, greatest)}, false, api.OK},
		{lp([]int{1}, row(api.AtMost, 3, 2)), []api.Frac{f(3, 2)}, true, api.OK},
		{lp([]int{1}, row(api.AtMost, 3, 2)), []api.Frac{f(301, 200)}, false, api.OK},
		{lp([]int{1}, row(api.AtMost, 3, 2)), []api.Frac{f(299, 200)}, true, api.OK},
		{lp([]int{1}, row(api.AtLeast, 3, 2)), []api.Frac{f(3, 2)}, true, api.OK},
		{lp([]int{1}, row(api.AtLeast, 3, 2)), []api.Frac{f(299, 200)}, false, api.OK},
		{lp([]int{1}, row(api.AtLeast, 3, 2)), []api.Frac{f(301, 200)}, true, api.OK},
		{lp([]int{1}, row(api.Equal, 3, 2)), []api.Frac{f(3, 2)}, true, api.OK},
		{lp([]int{1}, row(api.Equal, 3, 2)), []api.Frac{f(299, 200)}, false, api.OK},
		{lp([]int{1}, row(api.Equal, 3, 2)), []api.Frac{f(301, 200)}, false, api.OK},
		// A product fits if it does in lowest terms; 0 times a fraction is 0.
		{lp([]int{1}, row(api.AtLeast, 1, 3)), []api.Frac{f(greatest, 3)}, true, api.OK},
		{lp([]int{1}, row(api.AtLeast, 1, 4)), []api.Frac{f(greatest/2-1, 3)}, false, api.ErrBig},
		{lp([]int{1}, row(api.AtMost, 1, 0)), []api.Frac{f(greatest, 3)}, true, api.OK},
		// A sum on the way that does not fit, though the whole one does.
		{lp([]int{1, 1}, row(api.AtMost, 1<<30, 1, -1)), []api.Frac{f(greatest, 1), f(greatest, 1)}, true, api.OK},
		{lp([]int{1, 1, 1}, row(api.AtMost, 1<<30, 1, 1, -1)), []api.Frac{f(greatest, 1), f(1, 1), f(greatest, 1)}, false, api.ErrBig},
		{lp([]int{1, 1, 1}, row(api.AtMost, 1<<30, 1, -1, 1)), []api.Frac{f(greatest, 1), f(greatest, 1), f(1, 1)}, true, api.OK},
		// Neither a negative fraction nor a row that fails hides a later sum that does not fit.
		{lp([]int{1, 1}, row(api.Equal, 7, 1, 0), row(api.AtMost, 1, 0, 2)), []api.Frac{f(-1, 1), f(greatest, 1)}, false, api.ErrBig},
		{chapter(), []api.Frac{f(8, 5), f(6, 5)}, true, api.OK},
	} {
		if is, e := program.Feasible(c.p, c.x); is != c.want || e != c.e {
			t.Errorf("case %d: %t, %d", i, is, e)
		}
	}
	// Value does not look at the rows, nor Feasible at the cost.
	far := []api.Frac{f(greatest, 1)}
	if v, e := program.Value(lp([]int{1}, row(api.Equal, 7, 2)), far); v != f(greatest, 1) || e != api.OK {
		t.Error(v, e)
	}
	if is, e := program.Feasible(lp([]int{2}, row(api.AtLeast, 7, 1)), far); !is || e != api.OK {
		t.Error(is, e)
	}
	if v, e := program.Value(lp([]int{2}, row(api.AtLeast, 7, 1)), far); v != f(0, 0) || e != api.ErrBig {
		t.Error(v, e)
	}
}

// P4.1
func TestErrorsOfPoints(t *testing.T) {
	check := func(p api.Program, x []api.Frac, want api.Errno) {
		t.Helper()
		if is, e := program.Feasible(p, x); is || e != want {
			t.Errorf("Feasible(%v, %v) = %t, %d; want %d", p, x, is, e, want)
		}
		if v, e := program.Value(p, x); v != f(0, 0) || e != want {
			t.Errorf("Value(%v, %v) = %v, %d; want %d", p, x, v, e, want)
		}
	}
	for _, p := range invalidPrograms() {
		check(p, make([]api.Frac, len(p.Cost)), api.ErrArg)
		check(p, slices.Repeat([]api.Frac{f(0, 1)}, len(p.Cost)), api.ErrArg)
		check(p, nil, api.ErrArg)
	}
	for _, a := range invalidFractions {
		check(chapter(), []api.Frac{f(1, 1), a}, api.ErrArg)
		check(chapter(), []api.Frac{a, f(1, 1)}, api.ErrArg)
		check(chapter(), []api.Frac{a}, api.ErrArg)
		check(chapter(), []api.Frac{f(1, 1), f(1, 1), a}, api.ErrArg)
	}
	check(chapter(), nil, api.ErrSize)
	check(chapter(), []api.Frac{f(1, 1)}, api.ErrSize)
	check(chapter(), []api.Frac{f(1, 1), f(1, 1), f(1, 1)}, api.ErrSize)
	check(chapter(), []api.Frac{f(greatest, 7)}, api.ErrSize)
}

// P4.5
func TestDual(t *testing.T) {
	for i, c := range []struct{ p, want api.Program }{
		{chapter(), lp([]int{4, 6}, row(api.AtMost, -1, -1, -3), row(api.AtMost, -1, -2, -1))},
		{refuted(), lp([]int{-3, 2}, row(api.AtMost, 1, 1, -1))},
		{lp([]int{5}, row(api.Equal, -7, 3)), lp([]int{7, -7}, row(api.AtMost, 5, 3, -3))},
		{
			lp([]int{2, 3, -4}, row(api.Equal, 1, 2, 0, 3), row(api.AtLeast, 4, -5, 6, 7), row(api.Equal, -8, 9, -1, 0), row(api.AtMost, 6, 4, -3, 2)),
			lp([]int{-1, 1, -4, 8, -8, 6},
				row(api.AtMost, 2, 2, -2, -5, 9, -9, -4),
				row(api.AtMost, 3, 0, 0, 6, -1, 1, 3),
				row(api.AtMost, -4, 3, -3, 7, 0, 0, -2)),
		},
		{lp([]int{1 << 20}, row(api.AtMost, 1<<20, 1)), lp([]int{1 << 20}, row(api.AtMost, 1<<20, -1))},
		{lp([]int{1}, row(api.AtMost, -1<<20, 1)), lp([]int{-1 << 20}, row(api.AtMost, 1, -1))},
	} {
		before := copied(c.p)
		d, e := program.Dual(c.p)
		if !samePrograms(d, c.want) || e != api.OK || !samePrograms(c.p, before) {
			t.Errorf("case %d: %v, %d", i, d, e)
		}
		// What is written into the result does not reach the argument, nor other parts of the result.
		for j := range d.Rows {
			clear(d.Rows[j].Coefs[:cap(d.Rows[j].Coefs)])
		}
		clear(d.Cost[:cap(d.Cost)])
		if !samePrograms(c.p, before) {
			t.Errorf("case %d: shared memory", i)
		}
	}
	six := lp(make([]int, 6), slices.Repeat([]api.Row{row(api.Equal, 3, 1, 2, 3, 4, 5, 6)}, 6)...)
	if d, e := program.Dual(six); e != api.OK || len(d.Cost) != 12 || len(d.Rows) != 6 || !program.Valid(d) {
		t.Error(d, e)
	}
}

// P4.5
func TestErrorsOfDual(t *testing.T) {
	check := func(p api.Program, want api.Errno) {
		t.Helper()
		if d, e := program.Dual(p); e != want || d.Cost != nil || d.Rows != nil {
			t.Errorf("Dual(%v) = %v, %d; want %d", p, d, e, want)
		}
	}
	for _, p := range invalidPrograms() {
		check(p, api.ErrArg)
	}
	check(lp([]int{1}), api.ErrEmpty)
	check(lp(make([]int, 7)), api.ErrEmpty)
	check(lp(make([]int, 7), row(api.AtMost, 1, make([]int, 7)...)), api.ErrFull)
	check(lp(make([]int, 12), row(api.AtMost, 1<<30, make([]int, 12)...)), api.ErrFull)
	for _, kind := range []int{api.AtMost, api.AtLeast, api.Equal} {
		check(lp([]int{1}, row(kind, 1, 1), row(kind, 1<<20+1, 1)), api.ErrBig)
		check(lp([]int{1}, row(kind, -1<<20-1, 1), row(kind, 1, 1)), api.ErrBig)
	}
}
