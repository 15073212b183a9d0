package span_test

import (
	"math"
	"math/big"
	"math/rand"
	"slices"
	"testing"

	"stirrup/api"
	"stirrup/ratio"
	"stirrup/span"
)

const greatest = 1 << 60

func s(lo, hi int) api.Span { return api.Span{Lo: lo, Hi: hi} }

// notSpans are pairs that are no valid spans.
var notSpans = []api.Span{
	s(1, 0), s(0, -1), s(2, 1), s(-1, -2), s(greatest, greatest-1), s(greatest, -greatest), s(1-greatest, -greatest),
	s(0, greatest+1), s(-greatest-1, 0), s(greatest+1, greatest+1), s(-greatest-1, -greatest-1), s(-greatest-1, greatest+1),
	s(0, math.MaxInt), s(math.MinInt, 0), s(math.MinInt, math.MaxInt), s(math.MaxInt, math.MinInt),
	s(math.MinInt, math.MinInt), s(math.MaxInt, math.MaxInt), s(math.MaxInt, 0), s(0, math.MinInt),
}

// someSpans returns spans around which signs, sizes, or limits change, and other ones.
func someSpans(n int) []api.Span {
	ends := []int{-greatest, 1 - greatest, -greatest / 2, -1 << 30, -7, -1, 0, 1, 2, 10, 1 << 30, 1<<30 + 1, greatest / 2, greatest - 1, greatest}
	var l []api.Span
	for i, lo := range ends {
		for _, hi := range ends[i:] {
			l = append(l, s(lo, hi))
		}
	}
	r := rand.New(rand.NewSource(1))
	for range n {
		lo, hi := someInt(r), someInt(r)
		l = append(l, s(min(lo, hi), max(lo, hi)))
	}
	return l
}

// someInt returns a number of any size up to greatest.
func someInt(r *rand.Rand) int {
	n := r.Intn(1<<r.Intn(61) + 1)
	if r.Intn(2) == 0 {
		return -n
	}
	return n
}

func whole(n int) *big.Rat { return new(big.Rat).SetInt64(int64(n)) }

// roundedOut returns the least span that contains the numbers, or ErrBig.
func roundedOut(l ...*big.Rat) (api.Span, api.Errno) {
	least := slices.MinFunc(l, (*big.Rat).Cmp)
	most := slices.MaxFunc(l, (*big.Rat).Cmp)
	lo := new(big.Int).Div(least.Num(), least.Denom())
	hi := new(big.Int).Neg(most.Num())
	hi.Neg(hi.Div(hi, most.Denom()))
	if limit := big.NewInt(greatest); lo.CmpAbs(limit) > 0 || hi.CmpAbs(limit) > 0 {
		return s(0, 0), api.ErrBig
	}
	return s(int(lo.Int64()), int(hi.Int64())), api.OK
}

// operation is a function of two spans, and the same one for numbers.
type operation struct {
	name  string
	do    func(a, b api.Span) (api.Span, api.Errno)
	check func(a, b *big.Rat) *big.Rat
}

func operations() []operation {
	return []operation{
		{"Add", span.Add, func(a, b *big.Rat) *big.Rat { return new(big.Rat).Add(a, b) }},
		{"Sub", span.Sub, func(a, b *big.Rat) *big.Rat { return new(big.Rat).Sub(a, b) }},
		{"Mul", span.Mul, func(a, b *big.Rat) *big.Rat { return new(big.Rat).Mul(a, b) }},
		{"Div", span.Div, func(a, b *big.Rat) *big.Rat { return new(big.Rat).Quo(a, b) }},
	}
}

// P3.1
func TestValid(t *testing.T) {
	for lo := -5; lo <= 5; lo++ {
		for hi := -5; hi <= 5; hi++ {
			if span.Valid(s(lo, hi)) != (lo <= hi) {
				t.Errorf("Valid(%d..%d) = %t", lo, hi, lo > hi)
			}
		}
	}
	for _, a := range someSpans(1000) {
		if !span.Valid(a) {
			t.Errorf("Valid(%v) = false", a)
		}
	}
	for _, a := range notSpans {
		if span.Valid(a) {
			t.Errorf("Valid(%v) = true", a)
		}
	}
}

// inside returns numbers of a span, its ends among them, in steps of a third.
func inside(a api.Span) []*big.Rat {
	var l []*big.Rat
	for n := 3 * a.Lo; n <= 3*a.Hi; n++ {
		l = append(l, big.NewRat(int64(n), 3))
	}
	return l
}

// P3.1, P3.2: the spans are those around the results for many numbers of small spans.
func TestOperationsOnSmallSpans(t *testing.T) {
	var l []api.Span
	for lo := -4; lo <= 4; lo++ {
		for hi := lo; hi <= 4; hi++ {
			l = append(l, s(lo, hi))
		}
	}
	for _, c := range operations() {
		for _, a := range l {
			for _, b := range l {
				if c.name == "Div" && b.Lo <= 0 && b.Hi >= 0 {
					if got, e := span.Div(a, b); got != s(0, 0) || e != api.ErrZero {
						t.Errorf("Div(%v, %v) = %v, %d", a, b, got, e)
					}
					continue
				}
				var results []*big.Rat
				for _, x := range inside(a) {
					for _, y := range inside(b) {
						results = append(results, c.check(x, y))
					}
				}
				want, _ := roundedOut(results...)
				if got, e := c.do(a, b); got != want || e != api.OK {
					t.Errorf("%s(%v, %v) = %v, %d; want %v", c.name, a, b, got, e, want)
				}
			}
		}
	}
}

// P3.1, P3.2: for greater spans, the results at the ends are the outermost ones.
func TestOperations(t *testing.T) {
	l := someSpans(150)
	for _, c := range operations() {
		fits := 0
		for _, a := range l {
			for _, b := range l {
				want, wantE := s(0, 0), api.ErrZero
				if c.name != "Div" || b.Lo > 0 || b.Hi < 0 {
					want, wantE = roundedOut(c.check(whole(a.Lo), whole(b.Lo)), c.check(whole(a.Lo), whole(b.Hi)),
						c.check(whole(a.Hi), whole(b.Lo)), c.check(whole(a.Hi), whole(b.Hi)))
				}
				got, e := c.do(a, b)
				if got != want || e != wantE {
					t.Errorf("%s(%v, %v) = %v, %d; want %v, %d", c.name, a, b, got, e, want, wantE)
				}
				if c.name == "Div" && e == api.ErrBig {
					t.Errorf("Div(%v, %v) does not fit", a, b)
				}
				if e == api.OK {
					fits++
				}
			}
		}
		if n := len(l) * len(l); fits < n/10 || fits > n*9/10 {
			t.Errorf("%d of %d results of %s fit: too few of one sort are tested", fits, n, c.name)
		}
	}
}

// P3.1, P3.2
func TestOperationsAtTheLimits(t *testing.T) {
	for i, c := range []struct {
		do   func(a, b api.Span) (api.Span, api.Errno)
		a, b api.Span
		want api.Span
		e    api.Errno
	}{
		{span.Add, s(greatest-1, greatest-1), s(0, 1), s(greatest-1, greatest), api.OK},
		{span.Add, s(greatest-1, greatest-1), s(0, 2), s(0, 0), api.ErrBig},
		{span.Add, s(-greatest, greatest), s(0, 0), s(-greatest, greatest), api.OK},
		{span.Add, s(-greatest, 0), s(-1, 0), s(0, 0), api.ErrBig},
		{span.Add, s(greatest, greatest), s(-greatest, -greatest), s(0, 0), api.OK},
		{span.Add, s(greatest, greatest), s(greatest, greatest), s(0, 0), api.ErrBig},
		{span.Sub, s(greatest, greatest), s(greatest, greatest), s(0, 0), api.OK},
		{span.Sub, s(1-greatest, 0), s(0, 1), s(-greatest, 0), api.OK},
		{span.Sub, s(1-greatest, 0), s(0, 2), s(0, 0), api.ErrBig},
		{span.Sub, s(0, greatest), s(-1, 0), s(0, 0), api.ErrBig},
		{span.Sub, s(0, 3), s(0, 3), s(-3, 3), api.OK},
		{span.Mul, s(-2, 3), s(4, 5), s(-10, 15), api.OK},
		{span.Mul, s(0, 0), s(-greatest, greatest), s(0, 0), api.OK},
		{span.Mul, s(-1, 1), s(-greatest, greatest), s(-greatest, greatest), api.OK},
		{span.Mul, s(-1, 2), s(-greatest, greatest), s(0, 0), api.ErrBig},
		{span.Mul, s(1<<30, 1<<30), s(-1<<30, 1<<30), s(-greatest, greatest), api.OK},
		{span.Mul, s(1<<30, 1<<30), s(0, 1<<30+1), s(0, 0), api.ErrBig},
		{span.Mul, s(1<<30, 1<<30), s(-1<<30-1, 0), s(0, 0), api.ErrBig},
		// The products are 2^64 and more, so that their lower words alone would fit.
		{span.Mul, s(1<<32, 1<<32), s(1<<32, 1<<32), s(0, 0), api.ErrBig},
		{span.Mul, s(-1<<40, 1), s(1<<30, 1<<30), s(0, 0), api.ErrBig},
		{span.Mul, s(greatest, greatest), s(-greatest, greatest), s(0, 0), api.ErrBig},
		{span.Div, s(7, 8), s(-3, -2), s(-4, -2), api.OK},
		{span.Div, s(-greatest, greatest), s(1, 1), s(-greatest, greatest), api.OK},
		{span.Div, s(-greatest, greatest), s(-1, -1), s(-greatest, greatest), api.OK},
		{span.Div, s(1, 1), s(greatest, greatest), s(0, 1), api.OK},
		{span.Div, s(-1, -1), s(greatest, greatest), s(-1, 0), api.OK},
		{span.Div, s(0, 0), s(-greatest, -1), s(0, 0), api.OK},
		{span.Div, s(1, 1), s(0, 5), s(0, 0), api.ErrZero},
		{span.Div, s(1, 1), s(-5, 0), s(0, 0), api.ErrZero},
		{span.Div, s(0, 0), s(0, 0), s(0, 0), api.ErrZero},
		{span.Div, s(1, 1), s(-1, 1), s(0, 0), api.ErrZero},
	} {
		if got, e := c.do(c.a, c.b); got != c.want || e != c.e {
			t.Errorf("%d: %v, %d; want %v, %d", i, got, e, c.want, c.e)
		}
	}
}

// P3.1, P3.2, P3.3: invalid spans come before all other errors.
func TestInvalidSpans(t *testing.T) {
	does := append(operations(), operation{name: "Hull", do: span.Hull}, operation{name: "Meet", do: span.Meet})
	for _, bad := range notSpans {
		for _, c := range does {
			for _, a := range append(someSpans(10), bad) {
				if got, e := c.do(a, bad); got != s(0, 0) || e != api.ErrArg {
					t.Errorf("%s(%v, %v) = %v, %d", c.name, a, bad, got, e)
				}
				if got, e := c.do(bad, a); got != s(0, 0) || e != api.ErrArg {
					t.Errorf("%s(%v, %v) = %v, %d", c.name, bad, a, got, e)
				}
			}
		}
		for _, c := range [][2]int{{1, 1}, {1, 0}, {0, 0}, {greatest + 1, 1}, {1, greatest + 1}, {greatest, 1}} {
			if got, e := span.Times(bad, c[0], c[1]); got != s(0, 0) || e != api.ErrArg {
				t.Errorf("Times(%v, %d, %d) = %v, %d", bad, c[0], c[1], got, e)
			}
		}
		if got, e := span.Root(bad); got != s(0, 0) || e != api.ErrArg {
			t.Errorf("Root(%v) = %v, %d", bad, got, e)
		}
	}
}

// P3.2
func TestTimes(t *testing.T) {
	r := rand.New(rand.NewSource(2))
	numbers := []int{-greatest, 1 - greatest, -1 << 30, -3, -1, 0, 1, 2, 5, 1 << 30, greatest - 1, greatest}
	for range 20 {
		numbers = append(numbers, someInt(r))
	}
	fits, n := 0, 0
	for _, a := range someSpans(50) {
		for _, num := range numbers {
			for _, den := range numbers {
				want, wantE := s(0, 0), api.ErrZero
				if den != 0 {
					by := big.NewRat(int64(num), int64(den))
					want, wantE = roundedOut(new(big.Rat).Mul(whole(a.Lo), by), new(big.Rat).Mul(whole(a.Hi), by))
				}
				got, e := span.Times(a, num, den)
				if got != want || e != wantE {
					t.Errorf("Times(%v, %d, %d) = %v, %d; want %v, %d", a, num, den, got, e, want, wantE)
				}
				if n++; e == api.OK {
					fits++
				}
			}
		}
	}
	if fits < n/10 || fits > n*9/10 {
		t.Errorf("%d of %d results fit: too few of one sort are tested", fits, n)
	}
}

// P3.2
func TestTimesErrors(t *testing.T) {
	const top = greatest
	for i, c := range []struct {
		a        api.Span
		num, den int
		want     api.Span
		e        api.Errno
	}{
		{s(-1, 1), 5, -3, s(-2, 2), api.OK},
		{s(top, top), top, top, s(top, top), api.OK},
		{s(-top, top), -top, top, s(-top, top), api.OK},
		{s(-top, top), top - 1, top, s(1-top, top-1), api.OK},
		{s(-top, top), top, top - 1, s(0, 0), api.ErrBig},
		{s(top-1, top-1), top, top - 1, s(top, top), api.OK},
		// Just more than 2^60, which is rounded outward.
		{s(top/2, top/2), top - 1, top/2 - 1, s(0, 0), api.ErrBig},
		{s(-top/2, -top/2), top - 1, top/2 - 1, s(0, 0), api.ErrBig},
		{s(top/2, top/2), top - 3, top/2 - 1, s(top-2, top-1), api.OK},
		{s(1, 1), 1, 0, s(0, 0), api.ErrZero},
		{s(0, 0), 0, 0, s(0, 0), api.ErrZero},
		{s(1, 1), top + 1, 0, s(0, 0), api.ErrZero},
		{s(1, 1), math.MinInt, 0, s(0, 0), api.ErrZero},
		{s(0, 0), top + 1, 1, s(0, 0), api.ErrRange},
		{s(0, 0), -top - 1, 1, s(0, 0), api.ErrRange},
		{s(0, 0), 1, top + 1, s(0, 0), api.ErrRange},
		{s(0, 0), 1, -top - 1, s(0, 0), api.ErrRange},
		{s(0, 0), math.MinInt, math.MinInt, s(0, 0), api.ErrRange},
		{s(top, top), math.MaxInt, 1, s(0, 0), api.ErrRange},
		{s(0, 0), top, -top, s(0, 0), api.OK},
		{s(1, 1), top, 1, s(top, top), api.OK},
		{s(1, 2), top, 1, s(0, 0), api.ErrBig},
		{s(1, 1), -1, -top, s(0, 1), api.OK},
	} {
		if got, e := span.Times(c.a, c.num, c.den); got != c.want || e != c.e {
			t.Errorf("%d: %v, %d; want %v, %d", i, got, e, c.want, c.e)
		}
	}
}

// P3.3
func TestHullAndMeet(t *testing.T) {
	l := someSpans(100)
	for _, a := range l {
		for _, b := range l {
			want := []int{a.Lo, a.Hi, b.Lo, b.Hi}
			slices.Sort(want)
			if got, e := span.Hull(a, b); got != s(want[0], want[3]) || e != api.OK {
				t.Errorf("Hull(%v, %v) = %v, %d", a, b, got, e)
			}
			meet, wantE := s(want[1], want[2]), api.OK
			if a.Hi < b.Lo || b.Hi < a.Lo {
				meet, wantE = s(0, 0), api.ErrNone
			}
			if got, e := span.Meet(a, b); got != meet || e != wantE {
				t.Errorf("Meet(%v, %v) = %v, %d; want %v, %d", a, b, got, e, meet, wantE)
			}
		}
	}
}

// P3.3
func TestRoot(t *testing.T) {
	l := someSpans(1000)
	for lo := range 40 {
		for hi := lo; hi < 40; hi++ {
			l = append(l, s(lo, hi))
		}
	}
	for _, n := range []int{3, 100, 1 << 20, 759250124, 1<<30 - 1, 1 << 30} {
		for _, square := range []int{n*n - 1, n * n, min(n*n+1, greatest)} {
			l = append(l, s(square, square), s(0, square))
		}
	}
	for _, a := range l {
		want, wantE := s(0, 0), api.ErrRange
		if a.Lo >= 0 {
			lo, hi := new(big.Int).Sqrt(big.NewInt(int64(a.Lo))), new(big.Int).Sqrt(big.NewInt(int64(a.Hi)))
			want, wantE = s(int(lo.Int64()), int(hi.Int64())), api.OK
			if want.Hi*want.Hi != a.Hi {
				want.Hi++
			}
		}
		if got, e := span.Root(a); got != want || e != wantE {
			t.Errorf("Root(%v) = %v, %d; want %v, %d", a, got, e, want, wantE)
		}
	}
}

func f(num, den int) api.Frac { return api.Frac{Num: num, Den: den} }

// P3.4
func TestOf(t *testing.T) {
	const top = greatest
	for i, c := range []struct {
		a    api.Frac
		unit int
		want api.Span
		e    api.Errno
	}{
		{f(7, 3), 10, s(23, 24), api.OK}, {f(-7, 3), 10, s(-24, -23), api.OK}, {f(5, 2), 2, s(5, 5), api.OK},
		{f(0, 1), 1 << 40, s(0, 0), api.OK}, {f(1, top), 1, s(0, 1), api.OK}, {f(-1, top), 1, s(-1, 0), api.OK},
		{f(-1, top), 1 << 40, s(-1, 0), api.OK}, {f(1<<20, 1), 1 << 40, s(top, top), api.OK},
		{f(-1<<20, 1), 1 << 40, s(-top, -top), api.OK}, {f(1<<20+1, 1), 1 << 40, s(0, 0), api.ErrBig},
		{f(top, 3), 3, s(top, top), api.OK}, {f(-top, 3), 3, s(-top, -top), api.OK}, {f(top, 3), 4, s(0, 0), api.ErrBig},
		{f(top-1, 2), 2, s(top-1, top-1), api.OK}, {f(top, 1), 1 << 40, s(0, 0), api.ErrBig}, {f(top, 1), 16, s(0, 0), api.ErrBig},
		// 2^60 and a bit: what is rounded outward does not fit.
		{f(1<<40, 1<<20-1), 1<<40 - 1<<20, s(top, top), api.OK}, {f(1<<40, 1<<20-1), 1<<40 - 1<<20 + 1, s(0, 0), api.ErrBig},
		{f(-1<<40, 1<<20-1), 1<<40 - 1<<20 + 1, s(0, 0), api.ErrBig},
		{f(1, 2), 0, s(0, 0), api.ErrRange}, {f(1, 2), -1, s(0, 0), api.ErrRange}, {f(0, 1), 1<<40 + 1, s(0, 0), api.ErrRange},
		{f(top, 1), 1<<40 + 1, s(0, 0), api.ErrRange}, {f(0, 1), math.MinInt, s(0, 0), api.ErrRange},
		{f(2, 4), 1, s(0, 0), api.ErrArg}, {f(2, 4), 0, s(0, 0), api.ErrArg}, {f(1, 0), 1, s(0, 0), api.ErrArg},
		{f(1, -1), 1, s(0, 0), api.ErrArg}, {f(top+1, 1), 0, s(0, 0), api.ErrArg}, {f(math.MinInt, 1), 1, s(0, 0), api.ErrArg},
	} {
		if got, e := span.Of(c.a, c.unit); got != c.want || e != c.e {
			t.Errorf("%d: %v, %d; want %v, %d", i, got, e, c.want, c.e)
		}
	}
}

// someFraction returns a fraction of any size, often a great one.
func someFraction(r *rand.Rand) api.Frac {
	for {
		den := someInt(r)
		if r.Intn(2) == 0 {
			den = r.Intn(10) + 1
		}
		if a, e := ratio.Make(someInt(r), den); e == api.OK {
			return a
		}
	}
}

// P3.4
func TestOfManyFractions(t *testing.T) {
	r := rand.New(rand.NewSource(3))
	fits, n := 0, 20000
	for range n {
		a, unit := someFraction(r), r.Intn(1<<r.Intn(41))+1
		x := big.NewRat(int64(a.Num), int64(a.Den))
		want, wantE := roundedOut(x.Mul(x, whole(unit)))
		got, e := span.Of(a, unit)
		if got != want || e != wantE {
			t.Errorf("Of(%v, %d) = %v, %d; want %v, %d", a, unit, got, e, want, wantE)
		}
		if e == api.OK {
			fits++
		}
	}
	if fits < n/10 || fits > n*9/10 {
		t.Errorf("%d of %d results fit: too few of one sort are tested", fits, n)
	}
}
