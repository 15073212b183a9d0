package digraph_test

import (
	"math"
	"slices"
	"testing"

	"stirrup/api"
	"stirrup/digraph"
)

// drawing is a graph.
type drawing struct {
	n     int
	edges [][2]int
}

// chapter is the example of the chapter, without a loop.
func chapter() drawing { return drawing{3, [][2]int{{0, 2}, {2, 1}}} }

// upTo returns the numbers from 0 to n - 1.
func upTo(n int) []int {
	var list []int
	for i := range n {
		list = append(list, i)
	}
	return list
}

// alone returns the parts of n nodes of which no two are in the same one.
func alone(n int) [][]int {
	var parts [][]int
	for node := range n {
		parts = append(parts, []int{node})
	}
	return parts
}

// round leads from each of n nodes to the next one, and from the last one to the first one.
func round(n int) drawing {
	d := drawing{n: n}
	for node := range n {
		d.edges = append(d.edges, [2]int{node, (node + 1) % n})
	}
	return d
}

// ladder has the edges from each of n nodes to all that come after it.
func ladder(n int) drawing {
	d := drawing{n: n}
	for node := range n {
		for next := node + 1; next < n; next++ {
			d.edges = append(d.edges, [2]int{node, next})
		}
	}
	return d
}

// turned has all edges turned round.
func (d drawing) turned() drawing {
	other := drawing{n: d.n}
	for _, ends := range d.edges {
		other.edges = append(other.edges, [2]int{ends[1], ends[0]})
	}
	return other
}

// with has further edges, behind the others.
func (d drawing) with(edges ...[2]int) drawing {
	return drawing{d.n, append(slices.Clone(d.edges), edges...)}
}

func same(a, b [][]int) bool {
	return slices.EqualFunc(a, b, func(x, y []int) bool { return slices.Equal(x, y) })
}

// invalid are graphs that break one rule each, and some that break several.
func invalid() []drawing {
	return []drawing{
		{-1, nil}, {61, nil}, {math.MinInt, nil}, {math.MaxInt, nil}, {64, nil}, {1000, nil},
		{1, make([][2]int, 1001)}, {60, slices.Repeat([][2]int{{0, 59}}, 1001)}, {0, make([][2]int, 1001)},
		{0, [][2]int{{0, 0}}}, {0, [][2]int{{0, 1}}}, {1, [][2]int{{0, 1}}}, {1, [][2]int{{1, 0}}}, {1, [][2]int{{1, 1}}},
		{3, [][2]int{{0, 3}}}, {3, [][2]int{{3, 0}}}, {3, [][2]int{{0, -1}}}, {3, [][2]int{{-1, 0}}}, {3, [][2]int{{-1, -1}}},
		{3, [][2]int{{0, 1}, {1, 2}, {2, 3}}}, {3, [][2]int{{0, 1}, {3, 1}, {1, 2}}}, {60, [][2]int{{60, 0}}}, {60, [][2]int{{0, 60}}},
		{3, [][2]int{{math.MinInt, 0}}}, {3, [][2]int{{0, math.MaxInt}}}, {-1, [][2]int{{-1, -1}}}, {61, [][2]int{{60, 60}}},
		{-1, make([][2]int, 1001)}, {2, [][2]int{{0, 1}, {1, 0}, {0, 2}}},
	}
}

// P8.1
func TestValid(t *testing.T) {
	for i, d := range invalid() {
		if digraph.Valid(d.n, d.edges) {
			t.Errorf("graph %d, %d nodes, is valid", i, d.n)
		}
	}
	for i, d := range []drawing{
		{0, nil}, {0, [][2]int{}}, {1, nil}, {60, nil}, chapter(), round(60), ladder(45), ladder(45).turned(),
		{1, [][2]int{{0, 0}}}, {2, [][2]int{{0, 1}, {0, 1}, {1, 0}, {1, 1}}},
		{1, make([][2]int, 1000)}, {60, slices.Repeat([][2]int{{59, 59}}, 1000)}, {60, slices.Repeat([][2]int{{0, 59}}, 1000)},
	} {
		if !digraph.Valid(d.n, d.edges) {
			t.Errorf("graph %d, %d nodes, is not valid", i, d.n)
		}
	}
}

// P8.1 to P8.4: a graph that is not valid is the first error, whatever else is wrong.
func TestErrArg(t *testing.T) {
	for i, d := range invalid() {
		order, orderE := digraph.Order(d.n, d.edges)
		loop, loopE := digraph.Loop(d.n, d.edges)
		parts, partsE := digraph.Parts(d.n, d.edges)
		sum, path, pathE := digraph.Longest(d.n, d.edges, slices.Repeat([]int{1}, max(0, min(d.n, 60))))
		wrongSum, wrongPath, wrongPathE := digraph.Longest(d.n, d.edges, slices.Repeat([]int{-1}, 70))
		reached, reachE := digraph.Reach(d.n, d.edges, 0)
		wrong, wrongE := digraph.Reach(d.n, d.edges, -1)
		is, isE := digraph.Check(d.n, d.edges, upTo(max(0, min(d.n, 60))))
		no, noE := digraph.Check(d.n, d.edges, slices.Repeat([]int{-1}, 70))
		for _, e := range []api.Errno{orderE, loopE, partsE, pathE, wrongPathE, reachE, wrongE, isE, noE} {
			if e != api.ErrArg {
				t.Errorf("graph %d, %d nodes: %d", i, d.n, e)
			}
		}
		numbers := len(order) + len(loop) + len(parts) + sum + len(path) + wrongSum + len(wrongPath) + len(reached) + len(wrong)
		if numbers != 0 || is || no {
			t.Errorf("graph %d, %d nodes: results that are not zero", i, d.n)
		}
	}
}

// P8.1, P8.2: either the order or the loop is given.
func TestOrderLoopAndParts(t *testing.T) {
	for i, c := range []struct {
		d           drawing
		order, loop []int
		parts       [][]int
	}{
		{chapter(), []int{0, 2, 1}, nil, alone(3)},
		{chapter().with([2]int{1, 0}), nil, []int{0, 2, 1}, [][]int{{0, 1, 2}}},
		{drawing{}, nil, nil, nil}, {drawing{1, nil}, []int{0}, nil, alone(1)}, {drawing{3, nil}, upTo(3), nil, alone(3)},
		// a node that becomes free late is before greater ones that were free before it
		{drawing{4, [][2]int{{2, 0}}}, []int{1, 2, 0, 3}, nil, alone(4)},
		{drawing{4, [][2]int{{3, 0}, {3, 1}}}, []int{2, 3, 0, 1}, nil, alone(4)},
		// edges that are there several times
		{drawing{3, [][2]int{{2, 1}, {2, 1}, {1, 0}, {2, 1}}}, []int{2, 1, 0}, nil, alone(3)},
		{drawing{2, [][2]int{{1, 0}, {1, 0}, {0, 1}, {0, 1}}}, nil, []int{0, 1}, [][]int{{0, 1}}},
		// edges to their own nodes, also beside a loop of several nodes
		{drawing{1, [][2]int{{0, 0}}}, nil, []int{0}, [][]int{{0}}}, {drawing{3, [][2]int{{2, 2}}}, nil, []int{2}, alone(3)},
		{drawing{2, [][2]int{{0, 1}, {1, 0}, {0, 0}}}, nil, []int{0}, [][]int{{0, 1}}},
		{drawing{2, [][2]int{{0, 1}, {1, 0}, {1, 1}}}, nil, []int{0, 1}, [][]int{{0, 1}}},
		{drawing{4, [][2]int{{3, 3}, {2, 1}, {1, 2}}}, nil, []int{1, 2}, [][]int{{0}, {1, 2}, {3}}},
		{drawing{4, [][2]int{{1, 1}, {3, 2}, {2, 3}}}, nil, []int{1}, [][]int{{0}, {1}, {2, 3}}},
		// the loop of the least node, though there are shorter ones; nodes before it that lead to it, or come from it, are in none
		{drawing{6, [][2]int{{1, 3}, {3, 5}, {5, 1}, {2, 4}, {4, 2}, {0, 1}}}, nil, []int{1, 3, 5}, [][]int{{0}, {1, 3, 5}, {2, 4}}},
		{drawing{4, [][2]int{{2, 3}, {3, 2}, {3, 1}, {1, 0}}}, nil, []int{2, 3}, [][]int{{0}, {1}, {2, 3}}},
		{drawing{5, [][2]int{{0, 1}, {1, 2}, {2, 0}, {1, 3}, {3, 1}}}, nil, []int{0, 1, 2}, [][]int{{0, 1, 2, 3}, {4}}},
		// the fewest nodes rather than the least ones, and of as many nodes the least ones
		{drawing{4, [][2]int{{0, 1}, {1, 2}, {2, 0}, {0, 3}, {3, 0}}}, nil, []int{0, 3}, [][]int{{0, 1, 2, 3}}},
		{drawing{5, [][2]int{{0, 4}, {4, 1}, {0, 3}, {3, 2}, {2, 0}, {1, 0}}}, nil, []int{0, 3, 2}, [][]int{{0, 1, 2, 3, 4}}},
		{drawing{5, [][2]int{{0, 2}, {2, 4}, {4, 0}, {2, 3}, {3, 0}}}, nil, []int{0, 2, 3}, [][]int{{0, 2, 3, 4}, {1}}},
		// lesser nodes that lead astray: to a part of their own, or round about
		{drawing{5, [][2]int{{0, 1}, {1, 2}, {2, 1}, {0, 4}, {4, 0}}}, nil, []int{0, 4}, [][]int{{0, 4}, {1, 2}, {3}}},
		{drawing{5, [][2]int{{0, 3}, {3, 1}, {1, 2}, {2, 0}, {3, 4}, {4, 0}}}, nil, []int{0, 3, 4}, [][]int{{0, 1, 2, 3, 4}}},
		// parts that are mixed, and joined one way only
		{drawing{6, [][2]int{{5, 0}, {0, 5}, {4, 2}, {2, 4}, {5, 2}, {0, 4}, {3, 1}, {1, 3}, {4, 1}}}, nil, []int{0, 5}, [][]int{{0, 5}, {1, 3}, {2, 4}}},
		// two loops with one node in common, and a way back through a third one
		{drawing{6, [][2]int{{5, 4}, {4, 3}, {3, 5}, {3, 2}, {2, 1}, {1, 3}}}, nil, []int{1, 3, 2}, [][]int{{0}, {1, 2, 3, 4, 5}}},
		{round(60), nil, upTo(60), [][]int{upTo(60)}}, {ladder(45), upTo(45), nil, alone(45)},
	} {
		orderE, loopE := api.OK, api.ErrNone
		if c.loop != nil {
			orderE, loopE = api.ErrLoop, api.OK
		}
		if l, e := digraph.Order(c.d.n, c.d.edges); !slices.Equal(l, c.order) || e != orderE {
			t.Errorf("case %d: order %v, %d", i, l, e)
		}
		if l, e := digraph.Loop(c.d.n, c.d.edges); !slices.Equal(l, c.loop) || e != loopE {
			t.Errorf("case %d: loop %v, %d", i, l, e)
		}
		if l, e := digraph.Parts(c.d.n, c.d.edges); !same(l, c.parts) || e != api.OK {
			t.Errorf("case %d: parts %v, %d", i, l, e)
		}
	}
	l, e := digraph.Order(45, ladder(45).turned().edges)
	slices.Reverse(l)
	if !slices.Equal(l, upTo(45)) || e != api.OK {
		t.Errorf("the order of 45 nodes that lead back: %v, %d", l, e)
	}
}

// P8.3
func TestLongest(t *testing.T) {
	const most = 1 << 30
	square := [][2]int{{0, 1}, {1, 3}, {0, 2}, {2, 3}}
	for i, c := range []struct {
		d       drawing
		weights []int
		sum     int
		path    []int
	}{
		{drawing{}, nil, 0, nil}, {drawing{}, []int{}, 0, nil}, {drawing{1, nil}, []int{0}, 0, []int{0}}, {drawing{1, nil}, []int{7}, 7, []int{0}},
		{chapter(), []int{1, 2, 4}, 7, []int{0, 2, 1}}, {chapter(), []int{0, 2, 4}, 6, []int{0, 2, 1}}, {chapter(), []int{0, 0, 4}, 4, []int{0, 2}},
		// of several ones the least: it begins with the least node, and ends before what adds nothing
		{drawing{3, nil}, []int{2, 5, 5}, 5, []int{1}}, {drawing{3, nil}, []int{0, 0, 0}, 0, []int{0}}, {chapter(), []int{0, 0, 0}, 0, []int{0}},
		{drawing{3, [][2]int{{2, 1}}}, []int{0, 3, 0}, 3, []int{1}}, {drawing{3, [][2]int{{1, 2}}}, []int{0, 0, 3}, 3, []int{1, 2}},
		{drawing{4, square}, []int{1, 2, 2, 4}, 7, []int{0, 1, 3}}, {drawing{4, square}, []int{1, 2, 3, 4}, 8, []int{0, 2, 3}},
		{drawing{4, square}, []int{0, 0, 0, 5}, 5, []int{0, 1, 3}}, {drawing{4, square}, []int{5, 0, 0, 0}, 5, []int{0}},
		// through a node that adds nothing, as something comes behind it
		{drawing{4, [][2]int{{0, 3}, {3, 1}}}, []int{1, 1, 0, 0}, 2, []int{0, 3, 1}},
		{drawing{4, [][2]int{{0, 2}, {0, 1}, {1, 2}}}, []int{1, 0, 3, 0}, 4, []int{0, 1, 2}},
		// fewer nodes that weigh more, and more that weigh less each
		{drawing{4, [][2]int{{0, 1}, {1, 2}, {2, 3}, {0, 3}}}, []int{1, 0, 0, 9}, 10, []int{0, 1, 2, 3}},
		{drawing{5, [][2]int{{0, 1}, {1, 2}, {2, 3}, {0, 4}}}, []int{1, 2, 2, 2, 7}, 8, []int{0, 4}},
		{drawing{5, [][2]int{{0, 1}, {1, 2}, {2, 3}, {0, 4}}}, []int{1, 2, 2, 2, 5}, 7, []int{0, 1, 2, 3}},
		{drawing{5, [][2]int{{0, 1}, {1, 2}, {2, 3}, {0, 4}}}, []int{1, 2, 2, 2, 6}, 7, []int{0, 1, 2, 3}},
		// edges that are there several times count once
		{drawing{2, [][2]int{{1, 0}, {1, 0}}}, []int{3, 4}, 7, []int{1, 0}},
		{drawing{2, [][2]int{{1, 0}}}, []int{most, most}, 2 * most, []int{1, 0}},
		{ladder(45), slices.Repeat([]int{most}, 45), 45 * most, upTo(45)}, {ladder(45), slices.Repeat([]int{0}, 45), 0, []int{0}},
		{drawing{60, round(60).edges[:59]}, slices.Repeat([]int{most}, 60), 60 * most, upTo(60)},
	} {
		if sum, path, e := digraph.Longest(c.d.n, c.d.edges, c.weights); sum != c.sum || !slices.Equal(path, c.path) || e != api.OK {
			t.Errorf("case %d: the longest path is %d, %v, %d", i, sum, path, e)
		}
	}
}

// P8.3: the errors, in their order.
func TestLongestErrors(t *testing.T) {
	loop := chapter().with([2]int{1, 0})
	own := drawing{1, [][2]int{{0, 0}}}
	for i, c := range []struct {
		d       drawing
		weights []int
		e       api.Errno
	}{
		{chapter(), nil, api.ErrSize}, {chapter(), []int{1, 2}, api.ErrSize}, {chapter(), []int{1, 2, 3, 4}, api.ErrSize}, {drawing{}, []int{1}, api.ErrSize},
		{chapter(), []int{-1, 2}, api.ErrSize}, {loop, []int{1, 2, 3, -1}, api.ErrSize}, {loop, nil, api.ErrSize}, {chapter(), make([]int, 100000), api.ErrSize},
		{chapter(), []int{0, 0, -1}, api.ErrRange}, {chapter(), []int{-1, 0, 0}, api.ErrRange}, {chapter(), []int{0, 1<<30 + 1, 0}, api.ErrRange},
		{chapter(), []int{math.MinInt, 0, 0}, api.ErrRange}, {chapter(), []int{0, 0, math.MaxInt}, api.ErrRange}, {chapter(), []int{0, 1 << 32, 0}, api.ErrRange},
		{loop, []int{0, -1, 0}, api.ErrRange}, {own, []int{1<<30 + 1}, api.ErrRange},
		{loop, []int{1, 2, 3}, api.ErrLoop}, {loop, []int{0, 0, 0}, api.ErrLoop}, {own, []int{1 << 30}, api.ErrLoop}, {round(60), make([]int, 60), api.ErrLoop},
		// a loop to which the heaviest nodes do not lead
		{drawing{4, [][2]int{{2, 3}, {3, 2}}}, []int{9, 9, 0, 0}, api.ErrLoop},
	} {
		if sum, path, e := digraph.Longest(c.d.n, c.d.edges, c.weights); sum != 0 || len(path) != 0 || e != c.e {
			t.Errorf("case %d: %d, %v, %d instead of %d", i, sum, path, e, c.e)
		}
	}
}

// P8.4
func TestReach(t *testing.T) {
	d := drawing{7, [][2]int{{5, 2}, {2, 0}, {0, 5}, {0, 4}, {3, 3}, {6, 4}, {6, 4}}}
	for i, c := range []struct {
		d    drawing
		from int
		want []int
		e    api.Errno
	}{
		{d, 0, []int{0, 2, 4, 5}, api.OK}, {d, 2, []int{0, 2, 4, 5}, api.OK}, {d, 5, []int{0, 2, 4, 5}, api.OK}, {d, 4, []int{4}, api.OK},
		{d, 1, []int{1}, api.OK}, {d, 3, []int{3}, api.OK}, {d, 6, []int{4, 6}, api.OK}, {drawing{1, nil}, 0, []int{0}, api.OK},
		{round(60), 59, upTo(60), api.OK}, {ladder(45), 0, upTo(45), api.OK}, {ladder(45), 43, []int{43, 44}, api.OK},
		{d, 7, nil, api.ErrRange}, {d, -1, nil, api.ErrRange}, {d, math.MinInt, nil, api.ErrRange}, {d, math.MaxInt, nil, api.ErrRange}, {drawing{}, 0, nil, api.ErrRange},
	} {
		if l, e := digraph.Reach(c.d.n, c.d.edges, c.from); !slices.Equal(l, c.want) || e != c.e {
			t.Errorf("case %d: %d reaches %v, %d", i, c.from, l, e)
		}
	}
}

// P8.4
func TestCheck(t *testing.T) {
	fork := drawing{3, [][2]int{{0, 1}, {0, 2}, {0, 1}}}
	for i, c := range []struct {
		d     drawing
		order []int
		is    bool
		e     api.Errno
	}{
		{fork, []int{0, 1, 2}, true, api.OK}, {fork, []int{0, 2, 1}, true, api.OK}, {fork, []int{1, 0, 2}, false, api.OK},
		{fork, []int{2, 0, 1}, false, api.OK}, {fork, []int{1, 2, 0}, false, api.OK}, {fork, []int{2, 1, 0}, false, api.OK},
		{drawing{}, nil, true, api.OK}, {drawing{}, []int{}, true, api.OK}, {drawing{3, nil}, []int{2, 0, 1}, true, api.OK},
		// with a loop no list will do, even if only one node is in it
		{drawing{1, [][2]int{{0, 0}}}, []int{0}, false, api.OK}, {drawing{2, [][2]int{{1, 1}}}, []int{0, 1}, false, api.OK},
		{round(3), []int{0, 1, 2}, false, api.OK}, {round(60), upTo(60), false, api.OK}, {ladder(45), upTo(45), true, api.OK},
		// the errors, in their order
		{fork, nil, false, api.ErrSize}, {fork, []int{0, 1}, false, api.ErrSize}, {fork, []int{0, 1, 2, 0}, false, api.ErrSize}, {drawing{}, []int{0}, false, api.ErrSize},
		{fork, []int{0, 3}, false, api.ErrSize}, {fork, []int{1, 1}, false, api.ErrSize}, {fork, make([]int, 100000), false, api.ErrSize},
		{fork, []int{0, 1, 3}, false, api.ErrRange}, {fork, []int{-1, 1, 2}, false, api.ErrRange}, {fork, []int{0, 0, 3}, false, api.ErrRange},
		{fork, []int{3, 3, 3}, false, api.ErrRange}, {fork, []int{1, 1, -1}, false, api.ErrRange}, {fork, []int{0, math.MaxInt, math.MinInt}, false, api.ErrRange},
		{fork, []int{0, 1, 1}, false, api.ErrTwice}, {fork, []int{0, 0, 1}, false, api.ErrTwice}, {fork, []int{2, 1, 2}, false, api.ErrTwice}, {fork, []int{0, 0, 0}, false, api.ErrTwice},
		{round(3), []int{0, 1, 1}, false, api.ErrTwice},
	} {
		if is, e := digraph.Check(c.d.n, c.d.edges, c.order); is != c.is || e != c.e {
			t.Errorf("case %d: Check of %v is %t, %d", i, c.order, is, e)
		}
	}
}
