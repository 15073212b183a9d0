package span_test

import (
	"math/big"
	"math/rand"
	"testing"

	"stirrup/api"
	"stirrup/span"
)

// contains reports whether a number is one of a span.
func contains(a api.Span, x *big.Rat) bool { return whole(a.Lo).Cmp(x) <= 0 && x.Cmp(whole(a.Hi)) <= 0 }

// within reports whether a is inside of b.
func within(a, b api.Span) bool { return b.Lo <= a.Lo && a.Hi <= b.Hi }

// part returns a span inside of a, and a number inside of that.
func part(r *rand.Rand, a api.Span) (api.Span, *big.Rat) {
	x, y := a.Lo+r.Intn(a.Hi-a.Lo+1), a.Lo+r.Intn(a.Hi-a.Lo+1)
	if r.Intn(4) == 0 {
		x = a.Lo
	}
	if r.Intn(4) == 0 {
		y = a.Hi
	}
	x, y = min(x, y), max(x, y)
	n := int64(r.Intn(1000))
	by := big.NewRat(n, n+int64(r.Intn(1000))+1)
	number := new(big.Rat).Mul(by, whole(y-x))
	return s(x, y), number.Add(number, whole(x))
}

// P3.5: the result for numbers of spans is a number of the span, and a part has its result inside of the result.
func TestParts(t *testing.T) {
	r := rand.New(rand.NewSource(4))
	l := someSpans(300)
	for range 20000 {
		a, b := l[r.Intn(len(l))], l[r.Intn(len(l))]
		partA, x := part(r, a)
		partB, y := part(r, b)
		for _, c := range operations() {
			all, e := c.do(a, b)
			if e != api.OK {
				continue
			}
			if !contains(all, c.check(x, y)) {
				t.Errorf("%s(%v, %v) = %v does not contain the result for %v and %v", c.name, a, b, all, x, y)
			}
			if some, e := c.do(partA, partB); e != api.OK || !within(some, all) {
				t.Errorf("%s(%v, %v) = %v, %d is not inside of %v", c.name, partA, partB, some, e, all)
			}
		}
		num, den := someInt(r), someInt(r)
		if all, e := span.Times(a, num, den); e == api.OK {
			if !contains(all, new(big.Rat).Mul(x, big.NewRat(int64(num), int64(den)))) {
				t.Errorf("Times(%v, %d, %d) = %v does not contain the result for %v", a, num, den, all, x)
			}
			if some, e := span.Times(partA, num, den); e != api.OK || !within(some, all) {
				t.Errorf("Times(%v, %d, %d) = %v, %d is not inside of %v", partA, num, den, some, e, all)
			}
		}
	}
}

// P3.5: the same for roots, whose squares are numbers of the span.
func TestPartsOfRoots(t *testing.T) {
	r := rand.New(rand.NewSource(5))
	for range 5000 {
		a := s(r.Intn(1<<r.Intn(61)+1), greatest)
		a.Hi = a.Lo + r.Intn(min(greatest-a.Lo, 1<<r.Intn(61))+1)
		some, x := part(r, a)
		all, e := span.Root(a)
		if e != api.OK || whole(all.Lo*all.Lo).Cmp(x) > 0 || whole(all.Hi*all.Hi).Cmp(x) < 0 {
			t.Errorf("Root(%v) = %v, %d does not contain the root of %v", a, all, e, x)
		}
		if roots, e := span.Root(some); e != api.OK || !within(roots, all) {
			t.Errorf("Root(%v) = %v, %d is not inside of %v", some, roots, e, all)
		}
	}
}

// P3.5: hulls contain both, meetings are inside of both, and parts keep to that.
func TestPartsOfHulls(t *testing.T) {
	r := rand.New(rand.NewSource(6))
	l := someSpans(300)
	for range 20000 {
		a, b := l[r.Intn(len(l))], l[r.Intn(len(l))]
		partA, x := part(r, a)
		partB, y := part(r, b)
		hull, _ := span.Hull(a, b)
		partHull, _ := span.Hull(partA, partB)
		if !contains(hull, x) || !contains(hull, y) || !within(partHull, hull) {
			t.Errorf("Hull(%v, %v) = %v, and %v for parts", a, b, hull, partHull)
		}
		meet, e := span.Meet(a, b)
		if (e == api.OK && contains(meet, x)) != contains(b, x) {
			t.Errorf("Meet(%v, %v) = %v, %d", a, b, meet, e)
		}
		if some, partE := span.Meet(partA, partB); partE == api.OK && (e != api.OK || !within(some, meet)) {
			t.Errorf("Meet(%v, %v) = %v, which is not inside of %v, %d", partA, partB, some, meet, e)
		}
	}
}

// P3.5: orders do not matter, and what is added, and taken away, gives at least the span back.
func TestLaws(t *testing.T) {
	l := someSpans(150)
	for _, a := range l {
		for _, b := range l {
			for _, do := range []func(a, b api.Span) (api.Span, api.Errno){span.Add, span.Mul, span.Hull, span.Meet} {
				x, e := do(a, b)
				if y, otherE := do(b, a); x != y || e != otherE {
					t.Errorf("%v and %v: %v, %d; the other way %v, %d", a, b, x, e, y, otherE)
				}
			}
			if sum, e := span.Add(a, b); e == api.OK {
				if back, e := span.Sub(sum, b); e == api.OK && !within(a, back) {
					t.Errorf("%v plus and minus %v is %v", a, b, back)
				}
			}
			if rest, e := span.Sub(a, b); e == api.OK {
				if back, e := span.Add(rest, b); e == api.OK && !within(a, back) {
					t.Errorf("%v minus and plus %v is %v", a, b, back)
				}
			}
		}
	}
}

// P3.5: the span of a fraction is at most 1 wide, and contains it.
func TestWidth(t *testing.T) {
	r := rand.New(rand.NewSource(7))
	for range 20000 {
		a, unit := someFraction(r), r.Intn(1<<r.Intn(41))+1
		x := big.NewRat(int64(a.Num), int64(a.Den))
		got, e := span.Of(a, unit)
		if e == api.OK && (got.Hi-got.Lo > 1 || !contains(got, x.Mul(x, whole(unit)))) {
			t.Errorf("Of(%v, %d) = %v", a, unit, got)
		}
	}
}
