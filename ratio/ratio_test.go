package ratio_test

import (
	"math"
	"math/big"
	"math/rand"
	"slices"
	"testing"

	"stirrup/api"
	"stirrup/ratio"
)

const greatest = 1 << 60

// notFractions are pairs that are no valid fractions.
var notFractions = []api.Frac{
	{}, f(1, 0), f(0, 2), f(0, -1), f(0, greatest), f(2, 4), f(-2, 4), f(6, 9), f(greatest, 2), f(greatest, greatest),
	f(1, -1), f(-1, -1), f(1, -2), f(3, math.MinInt), f(1, greatest+1), f(-1, greatest+1), f(1, math.MaxInt),
	f(greatest+1, 1), f(-greatest-1, 1), f(greatest+1, 2), f(math.MaxInt, 1), f(math.MinInt, 1), f(math.MinInt, 3),
	f(math.MinInt, math.MinInt), f(math.MaxInt, math.MaxInt),
}

// edgeFractions are fractions around which signs, sizes, or limits change.
var edgeFractions = []api.Frac{
	f(0, 1), f(1, 1), f(-1, 1), f(2, 1), f(-2, 1), f(1, 2), f(-1, 2), f(3, 2), f(-3, 2), f(1, 6), f(1, 10), f(5, 6),
	f(greatest, 1), f(-greatest, 1), f(greatest-1, 1), f(1-greatest, 1), f(greatest/2, 1), f(-greatest/2, 1), f(greatest/2+1, 1),
	f(1, greatest), f(-1, greatest), f(1, greatest-1), f(-1, greatest-1), f(3, greatest), f(1, greatest/2), f(-1, greatest/2),
	f(greatest, greatest-1), f(-greatest, greatest-1), f(greatest-1, greatest), f(1-greatest, greatest),
	f(greatest-1, greatest-2), f(greatest-3, greatest-2), f(greatest/2+1, greatest), f(greatest/2-1, greatest),
	f(1<<30, 1), f(-1<<30, 1), f(1, 1<<30), f(1<<30, 1<<30-1), f(1<<30+1, 1<<30), f(1<<30, 3), f(3, 1<<30),
	f(1<<59, 3), f(-1<<59, 3), f(3, 1<<59), f(1<<60, 7), f(7, 1<<60), f(1<<58, 15), f(15, 1<<58),
}

func f(num, den int) api.Frac { return api.Frac{Num: num, Den: den} }

// someInt returns a number of any size up to greatest.
func someInt(r *rand.Rand) int { return r.Intn(1<<r.Intn(61)+1) + 1 }

// someFraction returns a fraction, often one with factors that other ones have too.
func someFraction(r *rand.Rand) api.Frac {
	for {
		num, den := someInt(r), someInt(r)
		switch r.Intn(3) {
		case 0:
			num = []int{1, 2, 3, 4, 6, 12, 5040, 720720}[r.Intn(8)]
		case 1:
			den = []int{1, 2, 3, 4, 6, 12, 5040, 720720, 1 << 40, 3 << 50}[r.Intn(10)]
		}
		if r.Intn(2) == 0 {
			num = -num
		}
		if a := plain(big.NewRat(int64(num), int64(den))); a != f(0, 0) {
			return a
		}
	}
}

// someFractions returns the edge fractions, and other ones.
func someFractions(n int) []api.Frac {
	r := rand.New(rand.NewSource(2))
	l := slices.Clone(edgeFractions)
	for range n {
		l = append(l, someFraction(r))
	}
	return l
}

// plain returns a rational number as a fraction, or 0/0 if it does not fit.
func plain(x *big.Rat) api.Frac {
	limit := big.NewInt(greatest)
	if x.Num().CmpAbs(limit) > 0 || x.Denom().CmpAbs(limit) > 0 {
		return api.Frac{}
	}
	return f(int(x.Num().Int64()), int(x.Denom().Int64()))
}

func rat(a api.Frac) *big.Rat { return big.NewRat(int64(a.Num), int64(a.Den)) }

// fitting returns what a function should return if its result has this value.
func fitting(x *big.Rat) (api.Frac, api.Errno) {
	if a := plain(x); a.Den > 0 {
		return a, api.OK
	}
	return api.Frac{}, api.ErrBig
}

// P2.1
func TestValid(t *testing.T) {
	for num := -40; num <= 40; num++ {
		for den := -3; den <= 40; den++ {
			want := den > 0 && rat(f(num, max(den, 1))).Denom().Int64() == int64(den)
			if ratio.Valid(f(num, den)) != want {
				t.Errorf("Valid(%d/%d) = %t", num, den, !want)
			}
		}
	}
	for _, a := range someFractions(1000) {
		if !ratio.Valid(a) {
			t.Errorf("Valid(%v) = false", a)
		}
		if a.Num > 0 && a.Num <= greatest/3 && a.Den <= greatest/3 && ratio.Valid(f(3*a.Num, 3*a.Den)) {
			t.Errorf("Valid of three times the numbers of %v = true", a)
		}
	}
	for _, a := range notFractions {
		if ratio.Valid(a) {
			t.Errorf("Valid(%v) = true", a)
		}
	}
}

// P2.1
func TestMake(t *testing.T) {
	r := rand.New(rand.NewSource(3))
	numbers := []int{
		0, 1, 2, 3, 4, 6, 10, 15, greatest - 1, greatest, greatest + 1, 2 * greatest, 3 * greatest, 4 * greatest, 2*greatest + 2,
		math.MaxInt, math.MaxInt - 1, math.MinInt, math.MinInt + 1, math.MinInt + 2, -3 * greatest,
	}
	for range 100 {
		numbers = append(numbers, int(r.Uint64()>>r.Intn(64)))
	}
	for _, n := range slices.Clone(numbers) {
		numbers = append(numbers, -n)
	}
	for _, num := range numbers {
		for _, den := range numbers {
			want, wantE := api.Frac{}, api.ErrZero
			if den != 0 {
				want, wantE = fitting(big.NewRat(int64(num), int64(den)))
			}
			if a, e := ratio.Make(num, den); a != want || e != wantE {
				t.Errorf("Make(%d, %d) = %v, %d; want %v, %d", num, den, a, e, want, wantE)
			}
		}
	}
}

// reckoning is a function of two fractions, and the same one for rational numbers.
type reckoning struct {
	name  string
	do    func(a, b api.Frac) (api.Frac, api.Errno)
	check func(a, b *big.Rat) *big.Rat
}

func reckonings() []reckoning {
	return []reckoning{
		{"Add", ratio.Add, func(a, b *big.Rat) *big.Rat { return a.Add(a, b) }},
		{"Sub", ratio.Sub, func(a, b *big.Rat) *big.Rat { return a.Sub(a, b) }},
		{"Mul", ratio.Mul, func(a, b *big.Rat) *big.Rat { return a.Mul(a, b) }},
		{"Div", ratio.Div, func(a, b *big.Rat) *big.Rat { return a.Quo(a, b) }},
	}
}

// P2.2
func TestReckonings(t *testing.T) {
	l := someFractions(200)
	fits, does := map[string]int{}, reckonings()
	for _, a := range l {
		for _, b := range l {
			for _, c := range does {
				want, wantE := api.Frac{}, api.ErrZero
				if c.name != "Div" || b.Num != 0 {
					want, wantE = fitting(c.check(rat(a), rat(b)))
				}
				got, e := c.do(a, b)
				if got != want || e != wantE {
					t.Errorf("%s(%v, %v) = %v, %d; want %v, %d", c.name, a, b, got, e, want, wantE)
				}
				if e == api.OK {
					fits[c.name]++
				}
			}
		}
	}
	for _, c := range does {
		if n := fits[c.name]; n < len(l)*len(l)/10 || n > len(l)*len(l)*9/10 {
			t.Errorf("%d of %d results of %s fit: too few of one sort are tested", n, len(l)*len(l), c.name)
		}
	}
}

// P2.2: sums just at the limits, with numerators of more than a word on the way, or not.
func TestReckoningsAtTheLimits(t *testing.T) {
	add, sub, mul, div := ratio.Add, ratio.Sub, ratio.Mul, ratio.Div
	for i, c := range []struct {
		do   func(a, b api.Frac) (api.Frac, api.Errno)
		a, b api.Frac
		want api.Frac
		e    api.Errno
	}{
		{add, f(1, 6), f(1, 10), f(4, 15), api.OK},
		{add, f(greatest-1, 1), f(1, 1), f(greatest, 1), api.OK},
		{add, f(greatest, 1), f(1, 1), f(0, 0), api.ErrBig},
		{sub, f(-greatest, 1), f(1, 1), f(0, 0), api.ErrBig},
		{sub, f(1-greatest, 1), f(1, 1), f(-greatest, 1), api.OK},
		{add, f(greatest, 1), f(-greatest, 1), f(0, 1), api.OK},
		{add, f(greatest, 1), f(greatest, 1), f(0, 0), api.ErrBig},
		{add, f(1, greatest), f(1, greatest), f(1, greatest/2), api.OK},
		{add, f(1, greatest), f(3, greatest), f(1, greatest/4), api.OK},
		{add, f(1, 1<<59), f(1, 3), f(0, 0), api.ErrBig},
		{add, f(greatest-1, greatest), f(greatest-1, greatest), f(greatest-1, greatest/2), api.OK},
		{sub, f(greatest, greatest-1), f(greatest, greatest-1), f(0, 1), api.OK},
		{sub, f(greatest, greatest-1), f(greatest-1, greatest), f(0, 0), api.ErrBig},
		{mul, f(greatest, 1), f(1, greatest), f(1, 1), api.OK},
		{mul, f(1<<30, 1), f(1<<30, 1), f(greatest, 1), api.OK},
		{mul, f(1<<30, 1), f(-1<<30, 1), f(-greatest, 1), api.OK},
		{mul, f(1<<30, 1), f(1<<30+1, 1), f(0, 0), api.ErrBig},
		{mul, f(1, 1<<30), f(1, 1<<30), f(1, greatest), api.OK},
		{mul, f(1, 1<<30), f(1, 1<<30+1), f(0, 0), api.ErrBig},
		{mul, f(greatest, 3), f(3, greatest-3), f(greatest, greatest-3), api.OK},
		{mul, f(greatest, 1), f(greatest, 1), f(0, 0), api.ErrBig},
		{mul, f(0, 1), f(1, greatest), f(0, 1), api.OK},
		{div, f(0, 1), f(-greatest, 1), f(0, 1), api.OK},
		{div, f(1, 1), f(-greatest, 1), f(-1, greatest), api.OK},
		{div, f(-1, greatest), f(-1, greatest), f(1, 1), api.OK},
		{div, f(-3, 2), f(3, 1), f(-1, 2), api.OK},
		{div, f(1, greatest), f(2, 1), f(0, 0), api.ErrBig},
		{div, f(greatest, 1), f(1, 2), f(0, 0), api.ErrBig},
		{div, f(greatest, 1), f(0, 1), f(0, 0), api.ErrZero},
		{div, f(0, 1), f(0, 1), f(0, 0), api.ErrZero},
	} {
		if got, e := c.do(c.a, c.b); got != c.want || e != c.e {
			t.Errorf("%d: %v, %d; want %v, %d", i, got, e, c.want, c.e)
		}
	}
}

// P2.2: invalid fractions come before a division by zero, and before numbers that are too big.
func TestReckoningsWithInvalidFractions(t *testing.T) {
	for _, c := range reckonings() {
		for _, bad := range notFractions {
			for _, a := range append([]api.Frac{{}}, edgeFractions...) {
				if got, e := c.do(a, bad); got != f(0, 0) || e != api.ErrArg {
					t.Errorf("%s(%v, %v) = %v, %d", c.name, a, bad, got, e)
				}
				if got, e := c.do(bad, a); got != f(0, 0) || e != api.ErrArg {
					t.Errorf("%s(%v, %v) = %v, %d", c.name, bad, a, got, e)
				}
			}
		}
	}
}

// P2.3
func TestCmp(t *testing.T) {
	l := someFractions(200)
	for _, a := range l {
		for _, b := range l {
			if got, e := ratio.Cmp(a, b); got != rat(a).Cmp(rat(b)) || e != api.OK {
				t.Errorf("Cmp(%v, %v) = %d, %d", a, b, got, e)
			}
		}
	}
	for _, bad := range notFractions {
		for _, a := range []api.Frac{{}, f(0, 1), f(1, 2), f(-greatest, 1)} {
			if got, e := ratio.Cmp(bad, a); got != 0 || e != api.ErrArg {
				t.Errorf("Cmp(%v, %v) = %d, %d", bad, a, got, e)
			}
			if got, e := ratio.Cmp(a, bad); got != 0 || e != api.ErrArg {
				t.Errorf("Cmp(%v, %v) = %d, %d", a, bad, got, e)
			}
		}
	}
}

// P2.3
func TestFloorAndCeil(t *testing.T) {
	for _, a := range someFractions(1000) {
		whole := new(big.Int).Div(rat(a).Num(), rat(a).Denom())
		want := int(whole.Int64())
		if got, e := ratio.Floor(a); got != want || e != api.OK {
			t.Errorf("Floor(%v) = %d, %d; want %d", a, got, e, want)
		}
		if a.Den > 1 {
			want++
		}
		if got, e := ratio.Ceil(a); got != want || e != api.OK {
			t.Errorf("Ceil(%v) = %d, %d; want %d", a, got, e, want)
		}
	}
	for _, bad := range notFractions {
		if got, e := ratio.Floor(bad); got != 0 || e != api.ErrArg {
			t.Errorf("Floor(%v) = %d, %d", bad, got, e)
		}
		if got, e := ratio.Ceil(bad); got != 0 || e != api.ErrArg {
			t.Errorf("Ceil(%v) = %d, %d", bad, got, e)
		}
	}
}

// P2.4
func TestSum(t *testing.T) {
	big60, one := f(greatest, 1), f(1, 1)
	for i, c := range []struct {
		l    []api.Frac
		want api.Frac
		e    api.Errno
	}{
		{nil, f(0, 1), api.OK},
		{[]api.Frac{}, f(0, 1), api.OK},
		{[]api.Frac{f(0, 1)}, f(0, 1), api.OK},
		{[]api.Frac{f(-5, 7)}, f(-5, 7), api.OK},
		{[]api.Frac{f(1, 2), f(1, 3), f(1, 6)}, one, api.OK},
		{[]api.Frac{big60, f(-1, 1), one}, big60, api.OK},
		{[]api.Frac{big60, one, f(-1, 1)}, f(0, 0), api.ErrBig},
		{[]api.Frac{f(-1, 1), f(-greatest, 1), one}, f(0, 0), api.ErrBig},
		{[]api.Frac{big60, one, f(2, 2)}, f(0, 0), api.ErrArg},
		{[]api.Frac{{}}, f(0, 0), api.ErrArg},
		{slices.Repeat([]api.Frac{f(1, 3)}, 1000), f(1000, 3), api.OK},
		{slices.Repeat([]api.Frac{f(1, 3)}, 1001), f(0, 0), api.ErrFull},
		{slices.Repeat([]api.Frac{big60}, 1000), f(0, 0), api.ErrBig},
		{slices.Repeat([]api.Frac{big60}, 1001), f(0, 0), api.ErrFull},
		{append(slices.Repeat([]api.Frac{big60}, 1001), f(1, -1)), f(0, 0), api.ErrArg},
		{append([]api.Frac{{}}, slices.Repeat([]api.Frac{big60}, 1001)...), f(0, 0), api.ErrArg},
	} {
		before := slices.Clone(c.l)
		if got, e := ratio.Sum(c.l); got != c.want || e != c.e {
			t.Errorf("%d: %v, %d; want %v, %d", i, got, e, c.want, c.e)
		}
		if !slices.Equal(c.l, before) {
			t.Errorf("%d: the list has changed", i)
		}
	}
}

// P2.4
func TestSumOfManyLists(t *testing.T) {
	r := rand.New(rand.NewSource(4))
	l := someFractions(20)
	for range 20000 {
		terms := make([]api.Frac, r.Intn(6))
		sum, want, wantE := new(big.Rat), f(0, 1), api.OK
		for i := range terms {
			terms[i] = l[r.Intn(len(l))]
			if wantE == api.OK {
				want, wantE = fitting(sum.Add(sum, rat(terms[i])))
			}
		}
		if got, e := ratio.Sum(terms); got != want || e != wantE {
			t.Errorf("Sum(%v) = %v, %d; want %v, %d", terms, got, e, want, wantE)
		}
	}
}
