package bipartite_test

import (
	"math"
	"slices"
	"testing"

	"stirrup/api"
	"stirrup/bipartite"
)

// drawing is a graph.
type drawing struct {
	n, m  int
	edges [][2]int
}

// chapter is the example of the chapter.
func chapter() drawing { return drawing{3, 2, [][2]int{{0, 0}, {1, 0}, {1, 1}, {2, 1}}} }

// full has all edges between n and m nodes.
func full(n, m int) drawing {
	d := drawing{n: n, m: m}
	for l := range n {
		for r := range m {
			d.edges = append(d.edges, [2]int{l, r})
		}
	}
	return d
}

// stairs has the edges from each node to the one with its number, and to the one before; a path through all nodes.
func stairs(n int) drawing {
	d := drawing{n: n, m: n}
	for l := range n {
		d.edges = append(d.edges, [2]int{l, l})
		if l > 0 {
			d.edges = append(d.edges, [2]int{l, l - 1})
		}
	}
	return d
}

// invalid are graphs that break one rule each, and some that break several.
func invalid() []drawing {
	return []drawing{
		{-1, 0, nil}, {0, -1, nil}, {61, 0, nil}, {0, 61, nil}, {61, 61, nil}, {math.MinInt, 3, nil}, {3, math.MinInt, nil},
		{math.MaxInt, 3, nil}, {3, math.MaxInt, nil}, {2, 2, make([][2]int, 1001)}, {60, 60, slices.Repeat([][2]int{{59, 59}}, 1001)},
		{0, 0, [][2]int{{0, 0}}}, {1, 0, [][2]int{{0, 0}}}, {0, 1, [][2]int{{0, 0}}},
		{2, 3, [][2]int{{2, 0}}}, {2, 3, [][2]int{{0, 3}}}, {2, 3, [][2]int{{-1, 0}}}, {2, 3, [][2]int{{0, -1}}},
		{2, 3, [][2]int{{0, 0}, {1, 2}, {2, 1}}}, {3, 2, [][2]int{{0, 0}, {1, 2}}}, {60, 60, [][2]int{{60, 0}}}, {60, 60, [][2]int{{0, 60}}},
		{60, 60, [][2]int{{64, 0}}}, {60, 60, [][2]int{{0, 64}}}, {2, 2, [][2]int{{math.MinInt, 0}}}, {2, 2, [][2]int{{0, math.MaxInt}}},
		{-1, -1, [][2]int{{-1, -1}}}, {61, 61, [][2]int{{60, 60}}},
	}
}

// P7.1
func TestValid(t *testing.T) {
	for i, d := range invalid() {
		if bipartite.Valid(d.n, d.m, d.edges) {
			t.Errorf("graph %d, %d and %d nodes, is valid", i, d.n, d.m)
		}
	}
	for i, d := range []drawing{
		{0, 0, nil}, {0, 0, [][2]int{}}, {60, 0, nil}, {0, 60, nil}, {60, 60, nil}, {1, 1, [][2]int{{0, 0}}}, chapter(), full(31, 32), stairs(60),
		{60, 60, slices.Repeat([][2]int{{59, 59}}, 1000)}, {2, 60, [][2]int{{0, 59}, {1, 59}, {0, 59}}}, {60, 1, [][2]int{{59, 0}}},
	} {
		if !bipartite.Valid(d.n, d.m, d.edges) {
			t.Errorf("graph %d, %d and %d nodes, is not valid", i, d.n, d.m)
		}
	}
}

// P7.1 to P7.3: a graph that is not valid is the first error.
func TestErrArg(t *testing.T) {
	for i, d := range invalid() {
		match, matchE := bipartite.Match(d.n, d.m, d.edges)
		left, right, coverE := bipartite.Cover(d.n, d.m, d.edges)
		open, openE := bipartite.Violator(d.n, d.m, d.edges)
		forced, forcedE := bipartite.Forced(d.n, d.m, d.edges)
		lefts, rights, degreesE := bipartite.Degrees(d.n, d.m, d.edges)
		for _, e := range []api.Errno{matchE, coverE, openE, forcedE, degreesE} {
			if e != api.ErrArg {
				t.Errorf("graph %d, %d and %d nodes: %d", i, d.n, d.m, e)
			}
		}
		if len(match)+len(left)+len(right)+len(open)+len(forced)+len(lefts)+len(rights) != 0 {
			t.Errorf("graph %d, %d and %d nodes: results that are not zero", i, d.n, d.m)
		}
	}
}

// P7.1
func TestMatch(t *testing.T) {
	var up []int
	for i := range 60 {
		up = append(up, i)
	}
	for i, c := range []struct {
		d    drawing
		want []int
	}{
		{chapter(), []int{0, 1, -1}}, {drawing{}, nil}, {drawing{2, 0, nil}, []int{-1, -1}}, {drawing{0, 2, nil}, nil},
		{drawing{2, 3, nil}, []int{-1, -1}}, {drawing{1, 3, [][2]int{{0, 2}, {0, 1}, {0, 2}}}, []int{1}},
		// a left node without a partner is greater than one with any partner, so that the first ones have partners
		{drawing{3, 1, [][2]int{{2, 0}, {1, 0}}}, []int{-1, 0, -1}}, {drawing{3, 2, [][2]int{{2, 0}, {1, 0}, {0, 1}, {2, 1}}}, []int{1, 0, -1}},
		// a lesser partner of the first node, though the second one then has a greater one
		{drawing{2, 2, [][2]int{{0, 0}, {0, 1}, {1, 0}, {1, 1}}}, []int{0, 1}}, {drawing{2, 3, [][2]int{{0, 1}, {0, 2}, {1, 1}, {1, 2}}}, []int{1, 2}},
		// not so if the matching were smaller then, be it by what comes from afar
		{drawing{2, 2, [][2]int{{0, 0}, {0, 1}, {1, 0}}}, []int{1, 0}},
		{drawing{3, 3, [][2]int{{0, 0}, {0, 2}, {1, 0}, {1, 1}, {2, 1}}}, []int{2, 0, 1}},
		{drawing{4, 4, [][2]int{{0, 0}, {0, 3}, {1, 0}, {1, 1}, {2, 1}, {2, 2}, {3, 2}}}, []int{3, 0, 1, 2}},
		// a node gets a partner only because the others go on to others
		{drawing{3, 3, [][2]int{{0, 0}, {1, 0}, {1, 1}, {2, 1}, {2, 2}}}, []int{0, 1, 2}},
		{full(3, 2), []int{0, 1, -1}}, {full(2, 3), []int{0, 1}}, {stairs(60), up},
	} {
		if l, e := bipartite.Match(c.d.n, c.d.m, c.d.edges); !slices.Equal(l, c.want) || e != api.OK {
			t.Errorf("case %d: the matching of %v is %v, %d", i, c.d, l, e)
		}
	}
}

// P7.1
func TestDegrees(t *testing.T) {
	for i, c := range []struct {
		d           drawing
		left, right []int
	}{
		{chapter(), []int{1, 2, 1}, []int{2, 2}}, {drawing{}, nil, nil}, {drawing{2, 1, nil}, []int{0, 0}, []int{0}},
		{drawing{0, 2, nil}, nil, []int{0, 0}}, {full(3, 2), []int{2, 2, 2}, []int{3, 3}},
		{drawing{2, 3, [][2]int{{1, 2}, {1, 2}, {1, 0}, {1, 2}, {0, 2}, {1, 0}}}, []int{1, 2}, []int{1, 0, 2}},
		{drawing{1, 1, slices.Repeat([][2]int{{0, 0}}, 1000)}, []int{1}, []int{1}},
		{full(16, 60), slices.Repeat([]int{60}, 16), slices.Repeat([]int{16}, 60)},
	} {
		if left, right, e := bipartite.Degrees(c.d.n, c.d.m, c.d.edges); !slices.Equal(left, c.left) || !slices.Equal(right, c.right) || e != api.OK {
			t.Errorf("case %d: the degrees of %v are %v, %v, %d", i, c.d, left, right, e)
		}
	}
}

// P7.2, P7.3: the open left nodes are the violator, the open right ones are in the cover.
func TestCoverAndViolator(t *testing.T) {
	for i, c := range []struct {
		d                 drawing
		left, right, open []int
	}{
		{chapter(), nil, []int{0, 1}, []int{0, 1, 2}}, {drawing{}, nil, nil, nil}, {drawing{0, 3, nil}, nil, nil, nil},
		{drawing{2, 0, nil}, nil, nil, []int{0, 1}}, {drawing{2, 2, nil}, nil, nil, []int{0, 1}},
		{drawing{1, 1, [][2]int{{0, 0}}}, []int{0}, nil, nil}, {full(2, 3), []int{0, 1}, nil, nil}, {full(3, 2), nil, []int{0, 1}, []int{0, 1, 2}},
		// open nodes beside others: these are in the cover, with edges to open and to other right nodes
		{drawing{3, 3, [][2]int{{0, 0}, {1, 0}, {2, 0}, {2, 1}, {2, 2}}}, []int{2}, []int{0}, []int{0, 1}},
		{drawing{4, 3, [][2]int{{3, 2}, {1, 2}, {2, 1}, {2, 2}, {0, 0}}}, []int{0, 2}, []int{2}, []int{1, 3}},
		// a left node without an edge is open, and has no right node; a right node without one is not open
		{drawing{2, 2, [][2]int{{1, 1}}}, []int{1}, nil, []int{0}},
		// open only by way of others
		{drawing{3, 2, [][2]int{{2, 1}, {1, 1}, {1, 0}, {0, 0}}}, nil, []int{0, 1}, []int{0, 1, 2}},
		{stairs(3), []int{0, 1, 2}, nil, nil},
	} {
		if left, right, e := bipartite.Cover(c.d.n, c.d.m, c.d.edges); !slices.Equal(left, c.left) || !slices.Equal(right, c.right) || e != api.OK {
			t.Errorf("case %d: the cover of %v is %v, %v, %d", i, c.d, left, right, e)
		}
		wantE := api.OK
		if c.open == nil {
			wantE = api.ErrNone
		}
		if open, e := bipartite.Violator(c.d.n, c.d.m, c.d.edges); !slices.Equal(open, c.open) || e != wantE {
			t.Errorf("case %d: the violator of %v is %v, %d", i, c.d, open, e)
		}
	}
}

// P7.3
func TestForced(t *testing.T) {
	var steps [][2]int
	for i := range 60 {
		steps = append(steps, [2]int{i, i})
	}
	for i, c := range []struct {
		d    drawing
		want [][2]int
	}{
		{chapter(), nil}, {drawing{}, nil}, {drawing{2, 2, nil}, nil}, {drawing{1, 1, [][2]int{{0, 0}}}, [][2]int{{0, 0}}},
		// an edge that is there twice is listed once
		{drawing{1, 1, [][2]int{{0, 0}, {0, 0}}}, [][2]int{{0, 0}}}, {drawing{2, 2, [][2]int{{1, 0}, {0, 1}, {1, 0}}}, [][2]int{{0, 1}, {1, 0}}},
		{full(2, 2), nil}, {full(2, 1), nil}, {full(1, 2), nil}, {stairs(60), steps},
		// a round of four nodes that is not forced, and an edge beside it that is
		{drawing{3, 3, [][2]int{{0, 0}, {0, 1}, {2, 0}, {2, 1}, {1, 2}, {1, 0}}}, [][2]int{{1, 2}}},
		// one that leaves a node without a partner, on the left and on the right
		{drawing{3, 2, [][2]int{{0, 1}, {1, 0}, {2, 0}}}, [][2]int{{0, 1}}}, {drawing{2, 3, [][2]int{{0, 1}, {1, 0}, {1, 2}}}, [][2]int{{0, 1}}},
	} {
		if l, e := bipartite.Forced(c.d.n, c.d.m, c.d.edges); !slices.Equal(l, c.want) || e != api.OK {
			t.Errorf("case %d: the forced edges of %v are %v, %d", i, c.d, l, e)
		}
	}
}

// P7.4
func TestHeaviest(t *testing.T) {
	const most = 1 << 30
	for i, c := range []struct {
		weights [][]int
		sum     int
		match   []int
	}{
		{nil, 0, nil}, {[][]int{}, 0, nil}, {[][]int{{}, nil}, 0, []int{-1, -1}}, {make([][]int, 8), 0, slices.Repeat([]int{-1}, 8)},
		{[][]int{{7}}, 7, []int{0}}, {[][]int{{-1}}, 0, []int{-1}}, {[][]int{{most}}, most, []int{0}}, {[][]int{{3, 5, 4}}, 5, []int{1}},
		{[][]int{{3, 2}, {2, -1}}, 4, []int{1, 0}}, {[][]int{{3, 2}, {0, -1}}, 3, []int{0, -1}}, {[][]int{{1}, {2}, {2}}, 2, []int{-1, 0, -1}},
		// of several ones the least: a partner with the weight 0 rather than none, and lesser partners first
		{[][]int{{0}}, 0, []int{0}}, {[][]int{{0, 0}, {0, 0}}, 0, []int{0, 1}}, {[][]int{{0, -1}, {0, -1}}, 0, []int{0, -1}},
		{[][]int{{5, 5}, {5, 5}}, 10, []int{0, 1}}, {[][]int{{1, 2}, {2, 3}}, 4, []int{0, 1}}, {[][]int{{4, -1}, {4, 0}}, 4, []int{0, 1}},
		{[][]int{{0, 4}, {-1, 4}}, 4, []int{0, 1}}, {[][]int{{-1, 0, 0}, {-1, 0, 0}, {-1, 0, 0}}, 0, []int{1, 2, -1}},
		// fewer edges, which are heavier
		{[][]int{{1, 9}, {-1, 1}}, 9, []int{1, -1}}, {[][]int{{9, 4}, {4, -1}}, 9, []int{0, -1}}, {[][]int{{9, 5}, {5, -1}}, 10, []int{1, 0}},
		{slices.Repeat([][]int{slices.Repeat([]int{most}, 8)}, 8), 8 * most, []int{0, 1, 2, 3, 4, 5, 6, 7}},
		{slices.Repeat([][]int{slices.Repeat([]int{-1}, 8)}, 8), 0, slices.Repeat([]int{-1}, 8)},
		{[][]int{{0, 0, 0, 0, 0, 0, 0, most}, {0, 0, 0, 0, 0, 0, most, most}}, 2 * most, []int{7, 6}},
	} {
		if sum, match, e := bipartite.Heaviest(c.weights); sum != c.sum || !slices.Equal(match, c.match) || e != api.OK {
			t.Errorf("case %d: the heaviest matching of %v is %d, %v, %d", i, c.weights, sum, match, e)
		}
	}
}

// P7.4: the errors, in their order.
func TestHeaviestErrors(t *testing.T) {
	for i, c := range []struct {
		weights [][]int
		e       api.Errno
	}{
		{make([][]int, 9), api.ErrFull}, {make([][]int, 100000), api.ErrFull}, {[][]int{make([]int, 9)}, api.ErrFull},
		{slices.Repeat([][]int{{0}}, 9), api.ErrFull},
		{[][]int{{1}, make([]int, 9)}, api.ErrFull}, {[][]int{{-2}, {1, 2}, make([]int, 9)}, api.ErrFull}, {append(make([][]int, 8), []int{-2}), api.ErrFull},
		{[][]int{slices.Repeat([]int{-2}, 9)}, api.ErrFull},
		{[][]int{{1}, {1, 2}}, api.ErrSize}, {[][]int{{1, 2}, {1}}, api.ErrSize}, {[][]int{{}, {1}}, api.ErrSize}, {[][]int{{1}, nil}, api.ErrSize},
		{[][]int{{1}, {2}, {3, 4}}, api.ErrSize}, {[][]int{{-2}, {1, 2}}, api.ErrSize}, {[][]int{{1, 2}, {math.MaxInt}}, api.ErrSize},
		{[][]int{{-2}}, api.ErrRange}, {[][]int{{1<<30 + 1}}, api.ErrRange}, {[][]int{{math.MinInt}}, api.ErrRange}, {[][]int{{math.MaxInt}}, api.ErrRange},
		{[][]int{{1, 2}, {3, -2}}, api.ErrRange}, {[][]int{{0, -1}, {1 << 31, 0}}, api.ErrRange},
	} {
		if sum, match, e := bipartite.Heaviest(c.weights); sum != 0 || len(match) != 0 || e != c.e {
			t.Errorf("case %d: %d, %v, %d instead of %d", i, sum, match, e, c.e)
		}
	}
}
