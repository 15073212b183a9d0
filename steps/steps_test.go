package steps_test

import (
	"math"
	"slices"
	"testing"

	"stirrup/api"
	"stirrup/steps"
)

const (
	far  = api.MaxLength
	most = api.MaxArea
)

// list makes steps of their numbers: a From, its Value, and so on.
func list(numbers ...int) []api.Step {
	var l []api.Step
	for i := 0; i < len(numbers); i += 2 {
		l = append(l, api.Step{From: numbers[i], Value: numbers[i+1]})
	}
	return l
}

// stairs returns so many steps that go up by 1, from 1 on, each by apart from the one before.
func stairs(from, by, count int) []api.Step {
	var l []api.Step
	for i := range count {
		l = append(l, api.Step{From: from + by*i, Value: i + 1})
	}
	return l
}

// level returns so many steps with the same value, which are short as a single one.
func level(from, value, count int) []api.Step {
	var l []api.Step
	for i := range count {
		l = append(l, api.Step{From: from + i, Value: value})
	}
	return l
}

// invalid returns lists that are not valid, each for one reason.
func invalid() [][]api.Step {
	return [][]api.Step{
		list(0, 1, 0, 2), list(0, 1, 0, 1), list(1, 1, 0, 2), list(0, 1, 5, 2, 5, 3), list(0, 1, 5, 2, 4, 3), list(0, 0, -1, 0),
		list(far, 1, -far, 2), list(-far, 5, 3, 4, -far, 5),
		list(0, -1), list(0, 1, 1, -1, 2, 0), list(0, math.MinInt), list(0, most+1), list(0, 1, 1, most+1), list(0, math.MaxInt),
		list(far+1, 0), list(0, 1, far+1, 0), list(math.MaxInt, 1), list(-far-1, 0), list(-far-1, 1, 0, 2), list(math.MinInt, 1),
		list(math.MinInt, 1, math.MaxInt, 2), stairs(0, 1, api.MaxSteps+1), stairs(-far, 2, 3*api.MaxSteps), level(0, 0, api.MaxSteps+1),
	}
}

// valid returns lists that are valid, up to the limits.
func valid() [][]api.Step {
	return [][]api.Step{
		nil, {}, list(0, 0), list(0, 5, 10, 0), list(4, 2, 12, 0), list(-far, most, far, most), list(-far, 0), list(far, most),
		list(0, 3, 1, 3, 2, 0, 3, 0), stairs(-far, 1, api.MaxSteps), stairs(far+1-api.MaxSteps, 1, api.MaxSteps), level(7, most, api.MaxSteps),
	}
}

// P10.1
func TestValid(t *testing.T) {
	for _, l := range valid() {
		if !steps.Valid(l) {
			t.Errorf("%v is not valid", l)
		}
	}
	for _, l := range invalid() {
		if steps.Valid(l) {
			t.Errorf("%v is valid", l)
		}
	}
}

// P10.1
func TestAt(t *testing.T) {
	for _, c := range []struct {
		l       []api.Step
		x, want int
	}{
		{nil, 0, 0},
		{list(0, 5, 10, 0), -1, 0},
		{list(0, 5, 10, 0), 0, 5},
		{list(0, 5, 10, 0), 9, 5},
		{list(0, 5, 10, 0), 10, 0},
		{list(-3, 2, -1, 2, 4, 7), -4, 0},
		{list(-3, 2, -1, 2, 4, 7), -3, 2},
		{list(-3, 2, -1, 2, 4, 7), -1, 2},
		{list(-3, 2, -1, 2, 4, 7), 3, 2},
		{list(-3, 2, -1, 2, 4, 7), 4, 7},
		{list(-3, 2, -1, 2, 4, 7), far + 1, 7},
		{list(-3, 2, -1, 2, 4, 7), math.MaxInt, 7},
		{list(-3, 2, -1, 2, 4, 7), -far - 1, 0},
		{list(-3, 2, -1, 2, 4, 7), math.MinInt, 0},
		{list(-far, most, far, 1), -far, most},
		{list(-far, most, far, 1), -far - 1, 0},
		{list(-far, most, far, 1), far - 1, most},
		{list(-far, most, far, 1), far, 1},
		{stairs(0, 2, api.MaxSteps), 2*api.MaxSteps - 3, api.MaxSteps - 1},
		{stairs(0, 2, api.MaxSteps), 2*api.MaxSteps - 2, api.MaxSteps},
	} {
		if value, e := steps.At(c.l, c.x); value != c.want || e != api.OK {
			t.Errorf("%v has %d at %d, %d", c.l, value, c.x, e)
		}
	}
	for _, l := range invalid() {
		for _, x := range []int{0, 1, math.MaxInt, math.MinInt} {
			if value, e := steps.At(l, x); value != 0 || e != api.ErrArg {
				t.Errorf("%v has %d at %d, %d", l, value, x, e)
			}
		}
	}
}

// P10.1
func TestShort(t *testing.T) {
	for _, c := range []struct{ l, want []api.Step }{
		{nil, nil},
		{list(0, 0), nil},
		{list(0, 0, 1, 0, 5, 0), nil},
		{list(0, 5), list(0, 5)},
		{list(0, 5, 3, 5, 4, 5), list(0, 5)},
		{list(0, 0, 1, 2, 2, 2, 5, 0, 6, 0, 7, 1), list(1, 2, 5, 0, 7, 1)},
		{list(0, 5, 1, 0, 2, 5), list(0, 5, 1, 0, 2, 5)},
		{list(-far, most, far, 0), list(-far, most, far, 0)},
		{stairs(-7, 3, api.MaxSteps), stairs(-7, 3, api.MaxSteps)},
		{level(7, most, api.MaxSteps), list(7, most)},
	} {
		if l, e := steps.Short(c.l); !slices.Equal(l, c.want) || e != api.OK {
			t.Errorf("%v is short as %v, %d", c.l, l, e)
		}
	}
	for _, bad := range invalid() {
		if l, e := steps.Short(bad); l != nil || e != api.ErrArg {
			t.Errorf("%v is short as %v, %d", bad, l, e)
		}
	}
}

// P10.2
func TestAddAndLeast(t *testing.T) {
	for _, c := range []struct {
		a, b, sum  []api.Step
		e          api.Errno
		least      []api.Step
		leastError api.Errno
	}{
		{nil, nil, nil, api.OK, nil, api.OK},
		{list(0, 5, 10, 0), list(4, 2, 12, 0), list(0, 5, 4, 7, 10, 2, 12, 0), api.OK, list(4, 2, 10, 0), api.OK},
		{list(0, 5, 10, 0), nil, list(0, 5, 10, 0), api.OK, nil, api.OK},
		{list(0, 0, 3, 4, 5, 4), list(7, 0), list(3, 4), api.OK, nil, api.OK},
		{list(0, 5, 10, 0), list(0, 5, 10, 0), list(0, 10, 10, 0), api.OK, list(0, 5, 10, 0), api.OK},
		{list(0, 5), list(2, 5), list(0, 5, 2, 10), api.OK, list(2, 5), api.OK},
		// What one loses the other gains.
		{list(0, 5, 4, 2), list(0, 1, 4, 4), list(0, 6), api.OK, list(0, 1, 4, 2), api.OK},
		{list(0, 5, 4, 2), list(0, 2, 4, 5), list(0, 7), api.OK, list(0, 2), api.OK},
		{list(-far, 1, far, 2), list(-far, 3, far, 1), list(-far, 4, far, 3), api.OK, list(-far, 1), api.OK},
		{list(0, most), list(1, 0), list(0, most), api.OK, nil, api.OK},
		{list(0, most-1), list(1, 1), list(0, most-1, 1, most), api.OK, list(1, 1), api.OK},
		{list(0, most, 5, 0), list(5, most), list(0, most), api.OK, nil, api.OK},
		{list(0, most, 5, 0), list(4, 1), nil, api.ErrBig, list(4, 1, 5, 0), api.OK},
		{list(0, most-1), list(1, 2), nil, api.ErrBig, list(1, 2), api.OK},
		{list(far, most), list(-far, most), nil, api.ErrBig, list(far, most), api.OK},
	} {
		for _, pair := range [][2][]api.Step{{c.a, c.b}, {c.b, c.a}} {
			if l, e := steps.Add(pair[0], pair[1]); !slices.Equal(l, c.sum) || e != c.e {
				t.Errorf("%v have the sum %v, %d", pair, l, e)
			}
			if l, e := steps.Least(pair[0], pair[1]); !slices.Equal(l, c.least) || e != c.leastError {
				t.Errorf("%v have the lesser values %v, %d", pair, l, e)
			}
		}
	}
}

// falls returns so many steps that go down by 2, each 2 apart from the one before.
func falls(from, value, count int) []api.Step {
	var l []api.Step
	for i := range count {
		l = append(l, api.Step{From: from + 2*i, Value: value - 2*i})
	}
	return l
}

// P10.2
func TestSumsWithManySteps(t *testing.T) {
	const full, half = api.MaxSteps, api.MaxSteps / 2
	for _, c := range []struct {
		a, b  []api.Step
		count int
		e     api.Errno
	}{
		{stairs(0, 2, half), stairs(1, 2, half), full, api.OK},
		{stairs(0, 2, half+1), stairs(1, 2, half), 0, api.ErrFull},
		{stairs(0, 2, full), stairs(1, 2, full), 0, api.ErrFull},
		{stairs(0, 1, full), stairs(0, 1, full), full, api.OK},
		{stairs(0, 1, full), list(full-1, 1), full, api.OK},
		{stairs(0, 1, full), list(full, 1), 0, api.ErrFull},
		{stairs(0, 1, full), list(-1, 1), 0, api.ErrFull},
		// Only short steps count.
		{stairs(0, 1, full), level(full, 0, full), full, api.OK},
		{stairs(0, 1, full), append(list(-2, 0, -1, 0), level(full, 0, full-2)...), full, api.OK},
		{level(0, 3, full), level(full, 4, full), 2, api.OK},
		// A sum that is too great comes before too many steps, be it before them or after them.
		{stairs(0, 2, full), append(stairs(1, 2, full-1), list(far, most)...), 0, api.ErrBig},
		{append(list(-far, most, 1-far, 0), stairs(0, 2, half)...), append(list(-far, 1), stairs(1, 2, full-1)...), 0, api.ErrBig},
		{append(stairs(0, 2, half), list(far, most)...), append(stairs(1, 2, half), list(far-1, 0)...), 0, api.ErrFull},
	} {
		for _, pair := range [][2][]api.Step{{c.a, c.b}, {c.b, c.a}} {
			if l, e := steps.Add(pair[0], pair[1]); len(l) != c.count || e != c.e {
				t.Errorf("%v have a sum with %d steps, %d", pair, len(l), e)
			}
		}
	}
}

// P10.2
func TestLesserValuesWithManySteps(t *testing.T) {
	const full, half = api.MaxSteps, api.MaxSteps / 2
	for _, c := range []struct {
		a, b  []api.Step
		count int
		e     api.Errno
	}{
		// The lesser value falls by 1 at each number, but for the first one.
		{falls(0, 1000, half), falls(1, 999, half), full - 1, api.OK},
		{falls(0, 1000, half+1), falls(1, 999, half), full, api.OK},
		{falls(0, 1000, half+1), falls(1, 999, half+1), 0, api.ErrFull},
		{falls(0, 1000, full), falls(1, 999, full), 0, api.ErrFull},
		{stairs(0, 2, full), stairs(1, 2, full), full, api.OK},
		{stairs(0, 1, full), list(-5, full), full, api.OK},
		{stairs(0, 1, full), list(full-1, 1), 1, api.OK},
		{stairs(0, 1, full), level(full, 0, full), 0, api.OK},
		// Sums of these would be too great.
		{falls(0, most, half+1), falls(1, most-1, half), full, api.OK},
		{falls(0, most, half+1), falls(1, most-1, half+1), 0, api.ErrFull},
	} {
		for _, pair := range [][2][]api.Step{{c.a, c.b}, {c.b, c.a}} {
			if l, e := steps.Least(pair[0], pair[1]); len(l) != c.count || e != c.e {
				t.Errorf("%v have lesser values with %d steps, %d", pair, len(l), e)
			}
		}
	}
}

// P10.2
func TestInvalidPairs(t *testing.T) {
	for _, bad := range invalid() {
		for _, other := range append(valid(), bad, list(0, -1)) {
			for _, pair := range [][2][]api.Step{{bad, other}, {other, bad}} {
				if l, e := steps.Add(pair[0], pair[1]); l != nil || e != api.ErrArg {
					t.Errorf("%v have the sum %v, %d", pair, l, e)
				}
				if l, e := steps.Least(pair[0], pair[1]); l != nil || e != api.ErrArg {
					t.Errorf("%v have the lesser values %v, %d", pair, l, e)
				}
			}
		}
	}
}

// P10.3
func TestBelow(t *testing.T) {
	a, b := list(0, 5, 10, 0), list(4, 2, 12, 0)
	for _, c := range []struct {
		a, b           []api.Step
		from, to, want int
		e              api.Errno
	}{
		{a, b, -far, far, 10, api.OK},
		{a, b, 3, 10, 10, api.OK},
		{a, b, 3, 9, 0, api.ErrNone},
		{a, b, 10, 10, 10, api.OK},
		{a, b, 11, 11, 11, api.OK},
		{a, b, 11, far, 11, api.OK},
		{a, b, 12, far, 0, api.ErrNone},
		{b, a, -far, far, 0, api.OK},
		{b, a, -far, 0, 0, api.OK},
		{b, a, -far, -1, 0, api.ErrNone},
		{b, a, 2, 5, 2, api.OK},
		{b, a, 4, 5, 4, api.OK},
		{b, a, 9, 9, 9, api.OK},
		{b, a, 10, far, 0, api.ErrNone},
		{a, a, -far, far, 0, api.ErrNone},
		{nil, nil, -far, far, 0, api.ErrNone},
		{nil, list(-7, 0), -far, far, 0, api.ErrNone},
		{nil, a, -far, far, 0, api.OK},
		{a, nil, -far, far, 0, api.ErrNone},
		{nil, list(far, 1), -far, far, far, api.OK},
		{nil, list(far, 1), far, far, far, api.OK},
		{nil, list(far, 1), -far, far - 1, 0, api.ErrNone},
		{nil, list(-far, 1), -far, -far, -far, api.OK},
		{nil, list(-far, 1, 1-far, 0), -far, far, -far, api.OK},
		{nil, list(-far, 1, 1-far, 0), 1 - far, far, 0, api.ErrNone},
		// Before 3 the second function goes up, but not beyond the first one.
		{list(0, 3), list(0, 2, 1, 3, 2, 1, 3, 4), 0, 5, 3, api.OK},
		{list(0, 3, 3, 5), list(0, 2, 1, 3, 2, 1, 3, 4), 0, 5, 0, api.ErrNone},
		// It is below before from only.
		{list(0, 1, 2, 6), list(0, 5), 2, 9, 0, api.ErrNone},
		{list(0, 1, 2, 6), list(0, 5), 1, 9, 1, api.OK},
		{list(0, most-1), list(0, most), 4, 4, 4, api.OK},
	} {
		if x, e := steps.Below(c.a, c.b, c.from, c.to); x != c.want || e != c.e {
			t.Errorf("%v is below %v from %d to %d at %d, %d", c.a, c.b, c.from, c.to, x, e)
		}
	}
}

// P10.3
func TestSum(t *testing.T) {
	l := list(0, 5, 10, 0)
	for _, c := range []struct {
		l              []api.Step
		from, to, want int
	}{
		{l, -3, 20, 50},
		{l, -far, far, 50},
		{l, 0, 10, 50},
		{l, 1, 10, 45},
		{l, 0, 9, 45},
		{l, 9, 30, 5},
		{l, -4, 1, 5},
		{l, -4, 0, 0},
		{l, 10, 30, 0},
		{l, 4, 4, 0},
		{l, -far, -far, 0},
		{nil, -far, far, 0},
		{list(-5, 3, 0, 8, 4, 3, 10, 0), -10, 20, 65},
		{list(-5, 3, 0, 8, 4, 3, 10, 0), -5, 2, 31},
		{list(-5, 3, 0, 8, 4, 3, 10, 0), 1, 3, 16},
		{list(-5, 3, 0, 8, 4, 3, 10, 0), 3, 11, 26},
		{list(-5, 3, 0, 3, 4, 3), -6, 6, 33},
		{list(7, 2), 5, 9, 4},
		{list(7, 2), 100, 109, 18},
		{list(-far, most), -far, far, most * 2 * far},
		{list(-far, most, far, 9), -far, far, most * 2 * far},
		{list(far, most), -far, far, 0},
		{list(far, most), far, far, 0},
		{stairs(-far, 1, api.MaxSteps), -far, api.MaxSteps - far, api.MaxSteps * (api.MaxSteps + 1) / 2},
	} {
		if sum, e := steps.Sum(c.l, c.from, c.to); sum != c.want || e != api.OK {
			t.Errorf("%v has the sum %d from %d to %d, %d", c.l, sum, c.from, c.to, e)
		}
	}
}

// P10.3
func TestInvalidRanges(t *testing.T) {
	ranges := [][2]int{
		{1, 0}, {far, -far}, {5, 4}, {far, far + 1}, {far + 1, far + 1}, {0, far + 1}, {-far - 1, -far}, {-far - 1, -far - 1},
		{-far - 1, 0}, {-far - 1, far + 1}, {math.MinInt, math.MaxInt}, {math.MaxInt, math.MinInt}, {math.MinInt, 0}, {0, math.MaxInt},
	}
	for _, r := range ranges {
		for _, l := range valid() {
			if x, e := steps.Below(nil, l, r[0], r[1]); x != 0 || e != api.ErrRange {
				t.Errorf("below %v in %d at %d, %d", l, r, x, e)
			}
			if sum, e := steps.Sum(l, r[0], r[1]); sum != 0 || e != api.ErrRange {
				t.Errorf("%v has the sum %d in %d, %d", l, sum, r, e)
			}
		}
	}
	for _, bad := range invalid() {
		for _, r := range append(ranges, [2]int{0, 5}, [2]int{3, 3}, [2]int{-far, far}) {
			for _, pair := range [][2][]api.Step{{bad, nil}, {nil, bad}, {bad, bad}, {bad, list(-far, most)}, {list(0, 1), bad}} {
				if x, e := steps.Below(pair[0], pair[1], r[0], r[1]); x != 0 || e != api.ErrArg {
					t.Errorf("%v is below in %d at %d, %d", pair, r, x, e)
				}
			}
			if sum, e := steps.Sum(bad, r[0], r[1]); sum != 0 || e != api.ErrArg {
				t.Errorf("%v has the sum %d in %d, %d", bad, sum, r, e)
			}
		}
	}
}

// P10.4
func TestPulse(t *testing.T) {
	for _, c := range []struct {
		from, to, value int
		want            []api.Step
		e               api.Errno
	}{
		{2, 5, 7, list(2, 7, 5, 0), api.OK},
		{-3, -2, 1, list(-3, 1, -2, 0), api.OK},
		{2, 5, 0, nil, api.OK},
		{-far, far, most, list(-far, most, far, 0), api.OK},
		{far - 1, far, 1, list(far-1, 1, far, 0), api.OK},
		{2, 2, 7, nil, api.ErrRange},
		{2, 2, 0, nil, api.ErrRange},
		{5, 2, 7, nil, api.ErrRange},
		{far, -far, 7, nil, api.ErrRange},
		{2, 5, -1, nil, api.ErrRange},
		{2, 5, math.MinInt, nil, api.ErrRange},
		{2, 5, most + 1, nil, api.ErrRange},
		{2, 5, math.MaxInt, nil, api.ErrRange},
		{2, far + 1, 7, nil, api.ErrRange},
		{2, far + 1, 0, nil, api.ErrRange},
		{far, far + 1, 7, nil, api.ErrRange},
		{-far - 1, 5, 7, nil, api.ErrRange},
		{-far - 1, -far, 7, nil, api.ErrRange},
		{math.MinInt, math.MaxInt, 7, nil, api.ErrRange},
		{math.MaxInt, math.MinInt, 7, nil, api.ErrRange},
		{far + 1, far + 2, 7, nil, api.ErrRange},
		{-far - 2, -far - 1, 7, nil, api.ErrRange},
	} {
		if l, e := steps.Pulse(c.from, c.to, c.value); !slices.Equal(l, c.want) || e != c.e {
			t.Errorf("from %d to %d with %d: %v, %d", c.from, c.to, c.value, l, e)
		}
	}
}

// Results share no memory with arguments, which are not changed.
func TestMemory(t *testing.T) {
	for _, l := range valid() {
		other := list(0, 5, 10, 0)
		before, otherBefore := slices.Clone(l), slices.Clone(other)
		spoil := func(result []api.Step, _ api.Errno) {
			result = result[:cap(result)]
			for i := range result {
				result[i] = api.Step{From: 77, Value: -77}
			}
		}
		spoil(steps.Short(l))
		spoil(steps.Add(l, nil))
		spoil(steps.Add(nil, l))
		spoil(steps.Add(l, other))
		spoil(steps.Least(l, l))
		spoil(steps.Least(l, other))
		steps.At(l, 3)
		steps.Below(l, other, -far, far)
		steps.Sum(l, -far, far)
		if !slices.Equal(l, before) || !slices.Equal(other, otherBefore) {
			t.Errorf("%v and %v have become %v and %v", before, otherBefore, l, other)
		}
	}
}
