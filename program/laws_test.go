package program_test

import (
	"math/rand"
	"slices"
	"testing"

	"stirrup/api"
	"stirrup/program"
)

// rightAnswer returns that of the example of the chapter.
func rightAnswer() api.Answer {
	return api.Answer{Value: f(-14, 5), X: []api.Frac{f(8, 5), f(6, 5)}, Y: []api.Frac{f(-2, 5), f(-1, 5)}}
}

// P4.3
func TestCheck(t *testing.T) {
	for i, c := range []struct {
		p     api.Program
		v     api.Frac
		x, y  []api.Frac
		right bool
	}{
		{chapter(), f(-14, 5), []api.Frac{f(8, 5), f(6, 5)}, []api.Frac{f(-2, 5), f(-1, 5)}, true},
		// another value, a point with another value, a point that is not feasible
		{chapter(), f(-13, 5), []api.Frac{f(8, 5), f(6, 5)}, []api.Frac{f(-2, 5), f(-1, 5)}, false},
		{chapter(), f(-14, 5), []api.Frac{f(8, 5), f(1, 1)}, []api.Frac{f(-2, 5), f(-1, 5)}, false},
		{chapter(), f(-14, 5), []api.Frac{f(9, 5), f(1, 1)}, []api.Frac{f(-2, 5), f(-1, 5)}, false},
		{chapter(), f(-14, 5), []api.Frac{f(19, 5), f(-1, 1)}, []api.Frac{f(-2, 5), f(-1, 5)}, false},
		// multipliers of another value, with a sum that is too great, with a wrong sign
		{chapter(), f(-14, 5), []api.Frac{f(8, 5), f(6, 5)}, []api.Frac{f(-1, 1), f(-1, 1)}, false},
		{chapter(), f(-14, 5), []api.Frac{f(8, 5), f(6, 5)}, []api.Frac{f(-1, 10), f(-2, 5)}, false},
		{lp([]int{1}, row(api.AtMost, 0, 1)), f(0, 1), []api.Frac{f(0, 1)}, []api.Frac{f(1, 1)}, false},
		{lp([]int{1}, row(api.AtMost, 0, 1)), f(0, 1), []api.Frac{f(0, 1)}, []api.Frac{f(-1, 1)}, true},
		{lp([]int{1}, row(api.AtLeast, 0, 1)), f(0, 1), []api.Frac{f(0, 1)}, []api.Frac{f(-1, 1)}, false},
		{lp([]int{1}, row(api.AtLeast, 0, 1)), f(0, 1), []api.Frac{f(0, 1)}, []api.Frac{f(1, 1)}, true},
		{lp([]int{1}, row(api.AtLeast, 0, 1)), f(0, 1), []api.Frac{f(0, 1)}, []api.Frac{f(1001, 1000)}, false},
		{lp([]int{1}, row(api.Equal, 0, 1)), f(0, 1), []api.Frac{f(0, 1)}, []api.Frac{f(-1, 1)}, true},
		{lp([]int{1}, row(api.Equal, 0, 1)), f(0, 1), []api.Frac{f(0, 1)}, []api.Frac{f(1, 1)}, true},
		{lp([]int{2}), f(0, 1), []api.Frac{f(0, 1)}, nil, true},
		{lp([]int{2}), f(2, 1), []api.Frac{f(1, 1)}, nil, false},
		{lp([]int{-2}), f(0, 1), []api.Frac{f(0, 1)}, nil, false},
	} {
		if ok, e := program.Check(c.p, api.Answer{Value: c.v, X: c.x, Y: c.y}); ok != c.right || e != api.OK {
			t.Errorf("case %d: %t, %d", i, ok, e)
		}
	}
}

// P4.3
func TestErrorsOfCheck(t *testing.T) {
	check := func(p api.Program, a api.Answer, want api.Errno) {
		t.Helper()
		if ok, e := program.Check(p, a); ok || e != want {
			t.Errorf("Check(%v, %v) = %t, %d; want %d", p, a, ok, e, want)
		}
	}
	for _, p := range invalidPrograms() {
		check(p, rightAnswer(), api.ErrArg)
		check(p, api.Answer{}, api.ErrArg)
	}
	good := rightAnswer()
	for _, a := range invalidFractions {
		check(chapter(), api.Answer{Value: a, X: good.X, Y: good.Y}, api.ErrArg)
		check(chapter(), api.Answer{Value: good.Value, X: []api.Frac{f(1, 1), a}, Y: good.Y}, api.ErrArg)
		check(chapter(), api.Answer{Value: good.Value, X: good.X, Y: []api.Frac{a, f(1, 1)}}, api.ErrArg)
		check(chapter(), api.Answer{Value: good.Value, X: []api.Frac{a}, Y: nil}, api.ErrArg)
		check(chapter(), api.Answer{Value: good.Value, X: nil, Y: []api.Frac{a}}, api.ErrArg)
		check(chapter(), api.Answer{Value: a}, api.ErrArg)
	}
	one, far := f(1, 1), f(greatest, 1)
	for _, l := range [][]api.Frac{nil, {one}, {one, one, one}, {far}} {
		check(chapter(), api.Answer{Value: one, X: l, Y: good.Y}, api.ErrSize)
		check(chapter(), api.Answer{Value: one, X: good.X, Y: l}, api.ErrSize)
	}
	// one sum that does not fit: that of a row, of the cost, of a variable, of the right sides
	p := lp([]int{1, 0}, row(api.AtMost, 1, 1, 0), row(api.AtMost, 1, 0, 2))
	check(p, api.Answer{Value: one, X: []api.Frac{one, far}, Y: []api.Frac{one, one}}, api.ErrBig)
	p = lp([]int{1, 2}, row(api.AtMost, 1, 1, 0), row(api.AtMost, 1, 0, 1))
	check(p, api.Answer{Value: one, X: []api.Frac{one, far}, Y: []api.Frac{one, one}}, api.ErrBig)
	p = lp([]int{1, 1}, row(api.AtMost, 1, 1, 0), row(api.AtMost, 1, 0, 2))
	check(p, api.Answer{Value: one, X: []api.Frac{one, one}, Y: []api.Frac{one, far}}, api.ErrBig)
	p = lp([]int{1, 1}, row(api.AtMost, 1, 1, 0), row(api.AtMost, 2, 0, 1))
	check(p, api.Answer{Value: one, X: []api.Frac{one, one}, Y: []api.Frac{one, far}}, api.ErrBig)
	p.Rows[1].Right = 0
	check(p, api.Answer{Value: one, X: []api.Frac{one, one}, Y: []api.Frac{one, far}}, api.OK)
}

// P4.3, P4.4
func TestRandomProofs(t *testing.T) {
	r := rand.New(rand.NewSource(4))
	seen := map[api.Errno]int{}
	check := func(p api.Program, a api.Answer) {
		feasible, fit := isFeasible(p, a.X)
		value, small := sum(p.Cost, a.X)
		below, bound, little := isBelow(p, a.Y, p.Cost)
		right := feasible && below && value.Cmp(rat(a.Value)) == 0 && bound.Cmp(value) == 0
		want, wantE := judged(right, fit && small && little)
		if ok, e := program.Check(p, a); ok != want || e != wantE {
			t.Fatalf("Check(%v, %v) = %t, %d; want %t, %d", p, a, ok, e, want, wantE)
		}
		below, bound, little = isBelow(p, a.Y, make([]int, len(p.Cost)))
		want, wantE = judged(below && bound.Sign() > 0, little)
		if ok, e := program.Refutes(p, a.Y); ok != want || e != wantE {
			t.Fatalf("Refutes(%v, %v) = %t, %d; want %t, %d", p, a.Y, ok, e, want, wantE)
		}
		seen[wantE]++
	}
	for range 20000 {
		p := someProgram(r, 1+r.Intn(3), r.Intn(4), 1+r.Intn(4), r.Intn(6))
		a, e := program.Solve(p)
		bits := []int{1, 2, 30, 60}[r.Intn(4)]
		if e != api.OK {
			a = api.Answer{Value: f(r.Intn(5)-2, 1), X: someFractions(r, len(p.Cost), bits)}
			a.Y, e = program.Farkas(p)
			if e != api.OK {
				a.Y = someFractions(r, len(p.Rows), bits)
			}
		}
		check(p, a)
		// the same with one number changed
		l := [][]api.Frac{{a.Value}, a.X, a.Y}[r.Intn(3)]
		if len(l) > 0 {
			l[r.Intn(len(l))] = someFractions(r, 1, bits)[0]
			check(p, a)
		}
	}
	if seen[api.OK] < 10000 || seen[api.ErrBig] < 300 {
		t.Error("too few of one sort:", seen)
	}
}

// P4.4
func TestRefutes(t *testing.T) {
	for i, c := range []struct {
		p    api.Program
		y    []api.Frac
		want bool
	}{
		{refuted(), []api.Frac{f(1, 1), f(-1, 1)}, true},
		{refuted(), []api.Frac{f(1, 7), f(-1, 7)}, true},
		{refuted(), []api.Frac{f(1, 1), f(-3, 2)}, false}, // 3 - 3 is not greater than 0
		{refuted(), []api.Frac{f(1, 1), f(-149, 100)}, true},
		{refuted(), []api.Frac{f(1, 1), f(-99, 100)}, false},
		{refuted(), []api.Frac{f(0, 1), f(0, 1)}, false},
		{lp([]int{1}, row(api.AtMost, 1, -1)), []api.Frac{f(1, 1)}, false},
		{lp([]int{1}, row(api.AtLeast, -1, 1)), []api.Frac{f(-1, 1)}, false},
		{lp([]int{1}, row(api.Equal, -1, 1)), []api.Frac{f(-1, 1)}, true},
		{lp([]int{1}, row(api.Equal, 1, -1)), []api.Frac{f(1, 1)}, true},
		{lp([]int{1, 1}, row(api.Equal, 1, -1, 1)), []api.Frac{f(1, 1)}, false},
		{lp([]int{1}), nil, false},
		{chapter(), []api.Frac{f(-1, 1), f(-1, 1)}, false},
	} {
		if is, e := program.Refutes(c.p, c.y); is != c.want || e != api.OK {
			t.Errorf("case %d: %t, %d", i, is, e)
		}
	}
	if y, e := program.Farkas(chapter()); y != nil || e != api.ErrNone {
		t.Error(y, e)
	}
	if y, e := program.Farkas(refuted()); len(y) != 2 || e != api.OK {
		t.Error(y, e)
	}
}

// P4.4
func TestErrorsOfRefutes(t *testing.T) {
	check := func(p api.Program, y []api.Frac, want api.Errno) {
		t.Helper()
		if is, e := program.Refutes(p, y); is || e != want {
			t.Errorf("Refutes(%v, %v) = %t, %d; want %d", p, y, is, e, want)
		}
	}
	one, far := f(1, 1), f(greatest, 1)
	for _, p := range invalidPrograms() {
		check(p, slices.Repeat([]api.Frac{one}, len(p.Rows)), api.ErrArg)
		check(p, nil, api.ErrArg)
	}
	for _, a := range invalidFractions {
		check(refuted(), []api.Frac{one, a}, api.ErrArg)
		check(refuted(), []api.Frac{a, one}, api.ErrArg)
		check(refuted(), []api.Frac{a}, api.ErrArg)
	}
	for _, l := range [][]api.Frac{nil, {one}, {one, one, one}, {far}} {
		check(refuted(), l, api.ErrSize)
	}
	// wrong signs do not hide a sum that does not fit, nor does a sum that is too great
	check(lp([]int{1}, row(api.AtMost, 1, 2)), []api.Frac{far}, api.ErrBig)
	check(lp([]int{1}, row(api.AtMost, 2, 1)), []api.Frac{far}, api.ErrBig)
	check(lp([]int{1, 1}, row(api.Equal, 1, 1, 2)), []api.Frac{far}, api.ErrBig)
	check(lp([]int{1}, row(api.Equal, 2, -1)), []api.Frac{far}, api.ErrBig)
}

// P4.6
func TestLaws(t *testing.T) {
	r := rand.New(rand.NewSource(5))
	duals, rows := 0, 0
	for range 20000 {
		p := someProgram(r, 1+r.Intn(6), r.Intn(6), 1+r.Intn(4), r.Intn(8))
		a, e := program.Solve(p)
		if e == api.ErrBig {
			continue
		}
		checkOtherOrder(t, r, p, a.Value, e)
		if d, g := program.Dual(p); g == api.OK {
			b, h := program.Solve(d)
			if h != api.ErrBig {
				duals++
				checkDual(t, p, a, e, b, h)
			}
		}
		q := copied(p)
		q.Rows = append(q.Rows, someProgram(r, len(p.Cost), 1, 4, 8).Rows...)
		b, h := program.Solve(q)
		if h == api.ErrBig {
			continue
		}
		rows++
		lower := e == api.OK && h == api.OK && rat(b.Value).Cmp(rat(a.Value)) < 0
		if lower || e == api.OK && h == api.ErrFree || e == api.ErrGap && h != api.ErrGap {
			t.Fatalf("%v has %v, %d; with a further row %v, %d", p, a.Value, e, b.Value, h)
		}
	}
	if duals < 1000 || rows < 1000 {
		t.Error("too few:", duals, rows)
	}
}

// checkOtherOrder checks that a program has the same least value in another order of its rows and variables.
func checkOtherOrder(t *testing.T, r *rand.Rand, p api.Program, value api.Frac, e api.Errno) {
	t.Helper()
	columns, lines := r.Perm(len(p.Cost)), r.Perm(len(p.Rows))
	q := lp(nil)
	for _, j := range columns {
		q.Cost = append(q.Cost, p.Cost[j])
	}
	for _, i := range lines {
		w := row(p.Rows[i].Kind, p.Rows[i].Right)
		for _, j := range columns {
			w.Coefs = append(w.Coefs, p.Rows[i].Coefs[j])
		}
		q.Rows = append(q.Rows, w)
	}
	if b, g := program.Solve(q); b.Value != value || g != e {
		t.Fatalf("%v has %v, %d; %v has %v, %d", p, value, e, q, b.Value, g)
	}
}

// checkDual checks what is known of a program against what is known of its dual.
func checkDual(t *testing.T, p api.Program, a api.Answer, e api.Errno, b api.Answer, h api.Errno) {
	t.Helper()
	opposite := f(-a.Value.Num, a.Value.Den)
	switch {
	case e == api.OK && h == api.OK && b.Value == opposite:
	case e == api.ErrFree && h == api.ErrGap:
	case e == api.ErrGap && (h == api.ErrGap || h == api.ErrFree):
	default:
		t.Fatalf("%v has %v, %d; its dual %v, %d", p, a.Value, e, b.Value, h)
	}
}
