package subsets_test

import (
	"math"
	"slices"
	"testing"

	"stirrup/api"
	"stirrup/subsets"
)

// chapter is the list of the example of the chapter.
func chapter() []int { return []int{5, -2, -3, 4, -4} }

// powers are numbers all of whose subsets have sums of their own, each one from 0 to 2^n - 1.
func powers(n int) []int {
	var l []int
	for i := range n {
		l = append(l, 1<<i)
	}
	return l
}

func same(a, b [][]int) bool {
	return slices.EqualFunc(a, b, func(x, y []int) bool { return slices.Equal(x, y) })
}

// P6.1 to P6.3: too many numbers, and then numbers out of range, come before all other errors.
func TestFaults(t *testing.T) {
	for i, c := range []struct {
		l []int
		e api.Errno
	}{
		{make([]int, 17), api.ErrLimit}, {slices.Repeat([]int{1}, 17), api.ErrLimit}, {make([]int, 100000), api.ErrLimit},
		{slices.Repeat([]int{math.MaxInt}, 17), api.ErrLimit}, {append(make([]int, 16), math.MinInt), api.ErrLimit},
		{[]int{api.MaxSum + 1}, api.ErrArg}, {[]int{-api.MaxSum - 1}, api.ErrArg}, {[]int{math.MaxInt}, api.ErrArg},
		{[]int{math.MinInt}, api.ErrArg}, {[]int{0, 0, api.MaxSum + 1, -api.MaxSum - 1}, api.ErrArg},
		{append(make([]int, 15), -api.MaxSum-1), api.ErrArg}, {append(powers(15), api.MaxSum+1), api.ErrArg},
		{[]int{math.MaxInt, math.MinInt, 1}, api.ErrArg},
	} {
		sums, sumsE := subsets.Sums(c.l)
		list, findE := subsets.Find(c.l, 0)
		zero, zeroE := subsets.Zero(c.l)
		parts, partsE := subsets.Parts(c.l)
		is, checkE := subsets.Check(c.l, [][]int{{0}})
		none, noneE := subsets.Check(c.l, nil)
		bad, badE := subsets.Check(c.l, [][]int{{-1, 99}})
		n, near, nearE := subsets.Nearest(c.l, 0)
		m, far, farE := subsets.Nearest(c.l, math.MaxInt)
		for _, e := range []api.Errno{sumsE, findE, zeroE, partsE, checkE, noneE, badE, nearE, farE} {
			if e != c.e {
				t.Errorf("case %d: %d instead of %d", i, e, c.e)
			}
		}
		if len(sums)+len(list)+len(zero)+len(parts)+len(near)+len(far) != 0 || n != 0 || m != 0 || is || none || bad {
			t.Errorf("case %d: results that are not zero", i)
		}
	}
}

// P6.1
func TestSums(t *testing.T) {
	top := slices.Repeat([]int{api.MaxSum}, 16)
	var tops, all []int
	for i := range 17 {
		tops = append(tops, i*api.MaxSum)
	}
	for i := range 1 << 16 {
		all = append(all, i)
	}
	for i, c := range []struct{ l, want []int }{
		{[]int{3, -1}, []int{-1, 0, 2, 3}}, {nil, []int{0}}, {[]int{}, []int{0}}, {[]int{0}, []int{0}}, {make([]int, 16), []int{0}},
		{[]int{7}, []int{0, 7}}, {[]int{-7}, []int{-7, 0}}, {[]int{-7, 7}, []int{-7, 0, 7}}, {[]int{2, 2, 4}, []int{0, 2, 4, 6, 8}},
		{[]int{-1, -1, -1}, []int{-3, -2, -1, 0}}, {[]int{5, 0, 9}, []int{0, 5, 9, 14}}, {[]int{1, 2, 3}, []int{0, 1, 2, 3, 4, 5, 6}},
		{[]int{api.MaxSum, -api.MaxSum}, []int{-api.MaxSum, 0, api.MaxSum}}, {top, tops}, {powers(16), all},
	} {
		if s, e := subsets.Sums(c.l); !slices.Equal(s, c.want) || e != api.OK {
			t.Errorf("case %d: the sums of %v are not these %d, %d", i, c.l, len(s), e)
		}
	}
}

// P6.1
func TestNearest(t *testing.T) {
	ends := append(slices.Repeat([]int{api.MaxSum}, 8), slices.Repeat([]int{-api.MaxSum}, 8)...)
	const most = 1 << 60
	for i, c := range []struct {
		l      []int
		sum, n int
		list   []int
		e      api.Errno
	}{
		{chapter(), 0, 0, nil, api.OK}, {chapter(), 4, 4, []int{3}, api.OK}, {chapter(), 3, 3, []int{0, 1}, api.OK},
		{chapter(), 8, 7, []int{0, 1, 3}, api.OK}, {chapter(), 100, 9, []int{0, 3}, api.OK}, {chapter(), -100, -9, []int{1, 2, 4}, api.OK},
		{nil, 0, 0, nil, api.OK}, {nil, 5, 0, nil, api.OK}, {nil, -most, 0, nil, api.OK}, {nil, most, 0, nil, api.OK},
		// the lesser one of two, on both sides of 0, and with 0
		{[]int{10, 20}, 15, 10, []int{0}, api.OK}, {[]int{20, 10}, 15, 10, []int{1}, api.OK}, {[]int{-10, -20}, -15, -20, []int{1}, api.OK},
		{[]int{10}, 5, 0, nil, api.OK}, {[]int{-10}, -5, -10, []int{0}, api.OK}, {[]int{3, -3}, 0, 0, nil, api.OK},
		{[]int{-4, 6}, 4, 2, []int{0, 1}, api.OK}, {[]int{-1, 2}, 0, 0, nil, api.OK},
		// nearer on one side only
		{[]int{10, 20}, 16, 20, []int{1}, api.OK}, {[]int{10, 20}, 14, 10, []int{0}, api.OK}, {[]int{-10, -20}, -16, -20, []int{1}, api.OK},
		// the first subset: the fewest indices, then the least ones
		{[]int{1, 2, 3, 3}, 3, 3, []int{2}, api.OK}, {[]int{1, 2, 2, 1}, 3, 3, []int{0, 1}, api.OK}, {[]int{5, 5, 5}, 11, 10, []int{0, 1}, api.OK},
		{[]int{0, 6}, 7, 6, []int{1}, api.OK},
		// the limits of the number
		{chapter(), most, 9, []int{0, 3}, api.OK}, {chapter(), -most, -9, []int{1, 2, 4}, api.OK},
		{ends, most, 8 * api.MaxSum, []int{0, 1, 2, 3, 4, 5, 6, 7}, api.OK},
		{ends, -most, -8 * api.MaxSum, []int{8, 9, 10, 11, 12, 13, 14, 15}, api.OK},
		{chapter(), most + 1, 0, nil, api.ErrRange}, {chapter(), -most - 1, 0, nil, api.ErrRange}, {nil, math.MaxInt, 0, nil, api.ErrRange},
		{nil, math.MinInt, 0, nil, api.ErrRange},
	} {
		if n, list, e := subsets.Nearest(c.l, c.sum); n != c.n || !slices.Equal(list, c.list) || e != c.e {
			t.Errorf("case %d: nearest to %d of %v: %d, %v, %d", i, c.sum, c.l, n, list, e)
		}
	}
}

// P6.2
func TestFind(t *testing.T) {
	large := slices.Repeat([]int{api.MaxSum}, 16)
	for i, c := range []struct {
		l    []int
		sum  int
		list []int
		e    api.Errno
	}{
		{chapter(), 5, []int{0}, api.OK}, {chapter(), 2, []int{0, 2}, api.OK}, {chapter(), 9, []int{0, 3}, api.OK},
		{chapter(), -9, []int{1, 2, 4}, api.OK}, {chapter(), -5, []int{1, 2}, api.OK}, {chapter(), 6, []int{0, 2, 3}, api.OK},
		{chapter(), 8, nil, api.ErrNone}, {chapter(), 10, nil, api.ErrNone}, {chapter(), -10, nil, api.ErrNone},
		// the empty one has the sum 0, and comes first
		{chapter(), 0, nil, api.OK}, {nil, 0, nil, api.OK}, {[]int{0}, 0, nil, api.OK}, {[]int{1, -1}, 0, nil, api.OK},
		{nil, 1, nil, api.ErrNone}, {[]int{}, -1, nil, api.ErrNone}, {[]int{3, 5}, 4, nil, api.ErrNone},
		// the fewest indices, though others come first lexicographically; then the least ones
		{[]int{1, 2, 3}, 3, []int{2}, api.OK}, {[]int{4, 4}, 4, []int{0}, api.OK}, {[]int{1, 1, 1, 3, 3}, 6, []int{3, 4}, api.OK},
		{[]int{1, 4, 4, 1}, 5, []int{0, 1}, api.OK}, {[]int{9, 2, 5, 4, 1}, 6, []int{1, 3}, api.OK}, {[]int{2, 3, 4, 1}, 5, []int{0, 1}, api.OK},
		{[]int{0, 0, 7, 0}, 7, []int{2}, api.OK}, {[]int{1, 2, 3, 4, 5, 6}, 10, []int{3, 5}, api.OK},
		{[]int{1, 3, 3, 1, 1, 1}, 6, []int{1, 2}, api.OK}, {[]int{1, 2, 4, 3, 2, 5}, 8, []int{3, 5}, api.OK},
		// numbers that are no sums of 16 numbers
		{large, 16 * api.MaxSum, []int{0, 1, 2, 3, 4, 5, 6, 7, 8, 9, 10, 11, 12, 13, 14, 15}, api.OK},
		{large, api.MaxSum, []int{0}, api.OK}, {large, 17 * api.MaxSum, nil, api.ErrNone}, {large, math.MaxInt, nil, api.ErrNone},
		{large, math.MinInt, nil, api.ErrNone}, {powers(16), 1<<15 + 1<<3, []int{3, 15}, api.OK}, {powers(16), 1 << 16, nil, api.ErrNone},
	} {
		if list, e := subsets.Find(c.l, c.sum); !slices.Equal(list, c.list) || e != c.e {
			t.Errorf("case %d: the sum %d of %v: %v, %d", i, c.sum, c.l, list, e)
		}
	}
}

// P6.2
func TestZero(t *testing.T) {
	for i, c := range []struct {
		l, list []int
		e       api.Errno
	}{
		{chapter(), []int{3, 4}, api.OK}, {nil, nil, api.ErrNone}, {[]int{}, nil, api.ErrNone}, {[]int{0}, []int{0}, api.OK},
		{[]int{1}, nil, api.ErrNone}, {[]int{1, 2}, nil, api.ErrNone}, {[]int{-1, -2}, nil, api.ErrNone}, {[]int{1, -1, 0}, []int{2}, api.OK},
		{[]int{1, -1, 0, 0}, []int{2}, api.OK}, {make([]int, 16), []int{0}, api.OK}, {[]int{2, 1, -1, -2}, []int{0, 3}, api.OK},
		{[]int{5, -2, -3}, []int{0, 1, 2}, api.OK}, {[]int{1, 1, -2, 4, -4}, []int{3, 4}, api.OK}, {powers(16), nil, api.ErrNone},
		{[]int{5, -2, -3, 7, -9}, []int{0, 1, 2}, api.OK}, {append(powers(15), 1-1<<15), numbers(16), api.OK},
		{[]int{api.MaxSum, 1, -api.MaxSum}, []int{0, 2}, api.OK},
	} {
		if list, e := subsets.Zero(c.l); !slices.Equal(list, c.list) || e != c.e {
			t.Errorf("case %d: %v: %v, %d", i, c.l, list, e)
		}
	}
}

// P6.3
func TestParts(t *testing.T) {
	var zeros, pairs [][]int
	for i := range 16 {
		zeros = append(zeros, []int{i})
	}
	for i := range 8 {
		pairs = append(pairs, []int{i, i + 8})
	}
	ends := append(slices.Repeat([]int{api.MaxSum}, 8), slices.Repeat([]int{-api.MaxSum}, 8)...)
	for i, c := range []struct {
		l     []int
		parts [][]int
		e     api.Errno
	}{
		{chapter(), [][]int{{0, 1, 2}, {3, 4}}, api.OK}, {nil, nil, api.OK}, {[]int{}, nil, api.OK}, {[]int{0}, [][]int{{0}}, api.OK},
		{make([]int, 16), zeros, api.OK}, {ends, pairs, api.OK}, {append(powers(15), 1-1<<15), [][]int{numbers(16)}, api.OK},
		{[]int{1}, nil, api.ErrSum}, {[]int{1, 1}, nil, api.ErrSum}, {[]int{0, 0, -1}, nil, api.ErrSum}, {[]int{1, -1, 1}, nil, api.ErrSum},
		{slices.Repeat([]int{api.MaxSum}, 16), nil, api.ErrSum},
		// the first one of several
		{[]int{1, 2, -1, -2, 1, -1}, [][]int{{0, 2}, {1, 3}, {4, 5}}, api.OK}, {[]int{1, 1, -1, -1}, [][]int{{0, 2}, {1, 3}}, api.OK},
		{[]int{3, -1, -2, 3, -2, -1}, [][]int{{0, 1, 2}, {3, 4, 5}}, api.OK}, {[]int{4, -1, -4, -3, 4}, [][]int{{0, 1, 3}, {2, 4}}, api.OK},
		// a number 0 is a part of its own, also where it could go on with another part
		{[]int{1, 0, -1}, [][]int{{0, 2}, {1}}, api.OK}, {[]int{0, 2, 0, -2, 0}, [][]int{{0}, {1, 3}, {2}, {4}}, api.OK},
		// the first part of few indices, or one that is first lexicographically, leaves too few parts
		{[]int{3, -3, -1, -2, 1, 2}, [][]int{{0, 1}, {2, 4}, {3, 5}}, api.OK}, {[]int{3, -1, -2, -3, 1, 2}, [][]int{{0, 3}, {1, 4}, {2, 5}}, api.OK},
		{[]int{6, -1, -5, -6, 2, 3, 1, -2, 2}, [][]int{{0, 3}, {1, 6}, {2, 4, 5}, {7, 8}}, api.OK},
		{[]int{2, -2, 1, 1, -1, -1}, [][]int{{0, 1}, {2, 4}, {3, 5}}, api.OK},
		{[]int{1000, -400, -600, -30, -90, -880, 1, 7, 392, 5, 11, 584}, [][]int{{0, 3, 4, 5}, {1, 6, 7, 8}, {2, 9, 10, 11}}, api.OK},
	} {
		if p, e := subsets.Parts(c.l); !same(p, c.parts) || e != c.e {
			t.Errorf("case %d: the parts of %v are %v, %d", i, c.l, p, e)
		}
	}
}

// P6.3
func TestCheck(t *testing.T) {
	for i, c := range []struct {
		l     []int
		parts [][]int
		is    bool
	}{
		{chapter(), [][]int{{0, 1, 2}, {3, 4}}, true}, {chapter(), [][]int{{0, 1, 2, 3, 4}}, true}, {nil, nil, true}, {nil, [][]int{}, true},
		{[]int{0, 0}, [][]int{{0}, {1}}, true}, {[]int{0, 0}, [][]int{{0, 1}}, true}, {[]int{1, 1, -1, -1}, [][]int{{0, 3}, {1, 2}}, true},
		// not each index once
		{chapter(), nil, false}, {chapter(), [][]int{{0, 1, 2}}, false}, {chapter(), [][]int{{3, 4}}, false}, {[]int{0}, nil, false},
		{chapter(), [][]int{{0, 1, 2}, {3, 4}, {3, 4}}, false}, {chapter(), [][]int{{0, 1, 2}, {0, 1, 2}, {3, 4}}, false},
		{[]int{0, 0}, [][]int{{0}, {0, 1}}, false}, {[]int{0, 0}, [][]int{{0, 1}, {1}}, false}, {[]int{0, 0}, [][]int{{0, 0}, {1}}, false},
		{[]int{0}, [][]int{{0}, {0}}, false}, {[]int{0, 0, 0}, [][]int{{0}, {2}}, false},
		// no indices
		{chapter(), [][]int{{0, 1, 2}, {3, 4, 5}}, false}, {chapter(), [][]int{{-1, 0, 1, 2}, {3, 4}}, false}, {nil, [][]int{{0}}, false},
		{chapter(), [][]int{{0, 1, 2}, {3, 4}, {5}}, false}, {chapter(), [][]int{{0, 1, 2, math.MaxInt}, {3, 4}}, false},
		{chapter(), [][]int{{math.MinInt, 0, 1, 2}, {3, 4}}, false}, {make([]int, 16), [][]int{append(numbers(16), 16)}, false},
		{make([]int, 16), [][]int{append(numbers(16), 64)}, false},
		// not balanced
		{chapter(), [][]int{{0, 4}, {1, 2, 3}}, false}, {chapter(), [][]int{{0, 1, 2, 3}, {4}}, false}, {[]int{1}, [][]int{{0}}, false},
		{[]int{1, 1, -1, -1}, [][]int{{0, 1}, {2, 3}}, false}, {[]int{0, 1}, [][]int{{0}, {1}}, false}, {[]int{1, 1}, nil, false},
		// not written in order
		{chapter(), [][]int{{3, 4}, {0, 1, 2}}, false}, {chapter(), [][]int{{0, 2, 1}, {3, 4}}, false}, {chapter(), [][]int{{2, 1, 0}, {3, 4}}, false},
		{chapter(), [][]int{{0, 1, 2}, {4, 3}}, false}, {[]int{0, 0}, [][]int{{1}, {0}}, false},
		// parts that are empty
		{chapter(), [][]int{{0, 1, 2}, {3, 4}, {}}, false}, {chapter(), [][]int{{}, {0, 1, 2}, {3, 4}}, false}, {nil, [][]int{{}}, false},
		{chapter(), [][]int{{0, 1, 2}, nil, {3, 4}}, false}, {nil, [][]int{nil}, false}, {[]int{0}, [][]int{{0}, nil}, false},
		// much too long
		{chapter(), [][]int{{0, 1, 2}, make([]int, 100000)}, false}, {chapter(), make([][]int, 100000), false},
	} {
		if is, e := subsets.Check(c.l, c.parts); is != c.is || e != api.OK {
			t.Errorf("case %d: Check of %v is %t, %d", i, c.l, is, e)
		}
	}
}
