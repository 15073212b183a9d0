package steps_test

import (
	"math/rand"
	"slices"
	"testing"

	"stirrup/api"
	"stirrup/steps"
)

// valueOf returns the value of the function at x, as it is defined.
func valueOf(l []api.Step, x int) int {
	for _, s := range slices.Backward(l) {
		if s.From <= x {
			return s.Value
		}
	}
	return 0
}

// isShort reports whether steps are short.
func isShort(l []api.Step) bool {
	last := 0
	for _, s := range l {
		if s.Value == last {
			return false
		}
		last = s.Value
	}
	return true
}

// smallLists returns all lists whose steps begin from 0 to 2 and have values up to 2.
func smallLists() [][]api.Step {
	all := [][]api.Step{nil}
	for from := range 3 {
		for _, l := range slices.Clone(all) {
			for value := range 3 {
				all = append(all, append(slices.Clone(l), api.Step{From: from, Value: value}))
			}
		}
	}
	return all
}

// someSteps returns random steps, at most so many, from -wide to wide, with values up to high.
func someSteps(r *rand.Rand, count, wide, high int) []api.Step {
	var l []api.Step
	from := -wide + r.Intn(2*wide/(count+1)+1)
	for range r.Intn(count + 1) {
		if from > wide {
			break
		}
		l = append(l, api.Step{From: from, Value: r.Intn(high + 1)})
		from += 1 + r.Intn(2*wide/(count+1)+1)
	}
	return l
}

// checkPair compares what is told of two lists with the definitions, for all numbers and ranges from -edge to edge,
// beyond which no steps begin.
func checkPair(t *testing.T, a, b []api.Step, edge int) {
	t.Helper()
	sum, e := steps.Add(a, b)
	if e != api.OK || !steps.Valid(sum) || !isShort(sum) {
		t.Errorf("%v and %v have the sum %v, %d", a, b, sum, e)
	}
	least, e := steps.Least(a, b)
	if e != api.OK || !steps.Valid(least) || !isShort(least) {
		t.Errorf("%v and %v have the lesser values %v, %d", a, b, least, e)
	}
	for x := -edge; x <= edge; x++ {
		p, q := valueOf(a, x), valueOf(b, x)
		if got, e := steps.At(a, x); got != p || e != api.OK {
			t.Errorf("%v has %d at %d, %d", a, got, x, e)
		}
		if valueOf(sum, x) != p+q || valueOf(least, x) != min(p, q) {
			t.Errorf("%v and %v have the sum %v and the lesser values %v, but not at %d", a, b, sum, least, x)
		}
	}
	for from := -edge; from <= edge; from++ {
		for to := from; to <= edge; to++ {
			checkRange(t, a, b, from, to)
		}
	}
}

// checkRange compares what is told of a range with the values at all of its numbers.
func checkRange(t *testing.T, a, b []api.Step, from, to int) {
	t.Helper()
	below, want, sum := 0, api.ErrNone, 0
	for x := to; x >= from; x-- {
		if valueOf(a, x) < valueOf(b, x) {
			below, want = x, api.OK
		}
		if x < to {
			sum += valueOf(a, x)
		}
	}
	if x, e := steps.Below(a, b, from, to); x != below || e != want {
		t.Errorf("%v is below %v from %d to %d at %d, %d", a, b, from, to, x, e)
	}
	if got, e := steps.Sum(a, from, to); got != sum || e != api.OK {
		t.Errorf("%v has the sum %d from %d to %d, %d", a, got, from, to, e)
	}
}

// P10.1, P10.2, P10.3
func TestAllSmallPairs(t *testing.T) {
	all := smallLists()
	for _, a := range all {
		for _, b := range all {
			checkPair(t, a, b, 4)
		}
	}
}

// P10.1, P10.2, P10.3
func TestSomePairs(t *testing.T) {
	r := rand.New(rand.NewSource(101))
	for range 400 {
		checkPair(t, someSteps(r, 6, 10, 3), someSteps(r, 6, 10, 3), 12)
		checkPair(t, someSteps(r, 2, 10, 3), someSteps(r, 9, 10, 9), 12)
	}
}

// P10.5: two functions have the same short steps exactly if they have the same values.
func TestShortStepsTellFunctions(t *testing.T) {
	all := smallLists()
	for _, a := range all {
		shortA, e := steps.Short(a)
		if again, _ := steps.Short(shortA); e != api.OK || !isShort(shortA) || !slices.Equal(again, shortA) {
			t.Errorf("%v is short as %v, and that as %v, %d", a, shortA, again, e)
		}
		for _, b := range all {
			shortB, _ := steps.Short(b)
			same := true
			for x := -1; x <= 3; x++ {
				same = same && valueOf(a, x) == valueOf(b, x)
			}
			if slices.Equal(shortA, shortB) != same {
				t.Errorf("%v and %v are short as %v and %v", a, b, shortA, shortB)
			}
		}
	}
}

// P10.5: sums do not depend on their order, and where nothing is below, the least values are those of the second
// function.
func TestLaws(t *testing.T) {
	r := rand.New(rand.NewSource(102))
	for range 3000 {
		wide := 1 + r.Intn(1<<r.Intn(21))
		a, b, c := someSteps(r, 60, wide, most/3), someSteps(r, 60, wide, most/3), someSteps(r, 60, wide, most/3)
		ab, e := steps.Add(a, b)
		ba, _ := steps.Add(b, a)
		bc, _ := steps.Add(b, c)
		left, _ := steps.Add(ab, c)
		right, leftError := steps.Add(a, bc)
		if e != api.OK || leftError != api.OK || !slices.Equal(ab, ba) || !slices.Equal(left, right) {
			t.Errorf("%v, %v, %v: %d, %d, sums depend on their order", a, b, c, e, leftError)
		}
		least, _ := steps.Least(a, b)
		other, _ := steps.Least(b, a)
		shortA, _ := steps.Short(a)
		shortB, _ := steps.Short(b)
		if _, e := steps.Below(a, b, -far, far); (e == api.ErrNone) != slices.Equal(least, shortB) || !slices.Equal(least, other) {
			t.Errorf("%v, %v have the lesser values %v, %d", a, b, least, e)
		}
		if _, e := steps.Below(ab, a, -far, far); e != api.ErrNone {
			t.Errorf("%v and %v have the sum %v, %d", a, b, ab, e)
		}
		if least, e := steps.Least(ab, a); e != api.OK || !slices.Equal(least, shortA) {
			t.Errorf("%v and %v have the sum %v, and that with the first one has the lesser values %v, %d", a, b, ab, least, e)
		}
	}
}

// P10.5: the sum over a range is that over both of its parts, and sums of functions have the sums of their sums.
func TestSumsOfParts(t *testing.T) {
	r := rand.New(rand.NewSource(103))
	place := func() int { return r.Intn(2*far+1) - far }
	for range 3000 {
		a, b := someSteps(r, 90, far, most/2), someSteps(r, 90, far, most/2)
		x := []int{place(), place(), place()}
		slices.Sort(x)
		whole, e := steps.Sum(a, x[0], x[2])
		first, _ := steps.Sum(a, x[0], x[1])
		second, _ := steps.Sum(a, x[1], x[2])
		if e != api.OK || whole != first+second {
			t.Errorf("%v has the sums %d, %d, %d, %d over %d", a, whole, first, second, e, x)
		}
		both, _ := steps.Add(a, b)
		ofB, _ := steps.Sum(b, x[0], x[2])
		if sum, e := steps.Sum(both, x[0], x[2]); sum != whole+ofB || e != api.OK {
			t.Errorf("%v and %v have the sums %d and %d, and together %d, %d over %d", a, b, whole, ofB, sum, e, x)
		}
		if x[0] < x[1] {
			checkPulse(t, a, x[0], x[1])
		}
	}
}

// checkPulse compares a pulse with its definition; the lesser values with the greatest one are a part of a function.
func checkPulse(t *testing.T, a []api.Step, from, to int) {
	t.Helper()
	pulse, e := steps.Pulse(from, to, most)
	if e != api.OK || !steps.Valid(pulse) || !isShort(pulse) {
		t.Errorf("from %d to %d: %v, %d", from, to, pulse, e)
	}
	for _, x := range []int{-far, from - 1, from, to - 1, to, far} {
		want := 0
		if from <= x && x < to {
			want = most
		}
		if value := valueOf(pulse, x); value != want {
			t.Errorf("from %d to %d: %v has %d at %d", from, to, pulse, value, x)
		}
	}
	part, _ := steps.Least(a, pulse)
	want, _ := steps.Sum(a, from, to)
	if sum, e := steps.Sum(part, -far, far); sum != want || e != api.OK {
		t.Errorf("%v has the sum %d from %d to %d, and %d as a part, %d", a, want, from, to, sum, e)
	}
}

// P10.4
func TestSmallPulses(t *testing.T) {
	for from := -3; from < 3; from++ {
		for to := from + 1; to <= 3; to++ {
			for value := range 3 {
				l, e := steps.Pulse(from, to, value)
				if e != api.OK || !steps.Valid(l) || !isShort(l) {
					t.Errorf("from %d to %d with %d: %v, %d", from, to, value, l, e)
				}
				for x := -5; x <= 5; x++ {
					want := 0
					if from <= x && x < to {
						want = value
					}
					if got := valueOf(l, x); got != want {
						t.Errorf("from %d to %d with %d: %v has %d at %d", from, to, value, l, got, x)
					}
				}
			}
		}
	}
}
