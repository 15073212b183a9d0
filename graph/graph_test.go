package graph_test

import (
	"math"
	"slices"
	"testing"

	"stirrup/api"
	"stirrup/graph"
)

// drawing is a graph.
type drawing struct {
	n     int
	edges [][2]int
}

// chapter is the example of the chapter.
func chapter() drawing { return drawing{4, [][2]int{{0, 1}, {1, 2}, {0, 2}, {2, 3}}} }

// line is a path of n nodes.
func line(n int) drawing {
	d := drawing{n: n}
	for node := range n - 1 {
		d.edges = append(d.edges, [2]int{node, node + 1})
	}
	return d
}

// invalid are graphs that break one rule each.
func invalid() []drawing {
	return []drawing{
		{-1, nil}, {1001, nil}, {math.MinInt, nil}, {math.MaxInt, nil},
		{1000, slices.Repeat([][2]int{{0, 999}}, 4001)},
		{-1, [][2]int{{0, 1}}}, {0, [][2]int{{0, 0}}}, {0, [][2]int{{0, 1}}}, {1, [][2]int{{0, 1}}},
		{3, [][2]int{{0, 0}}}, {3, [][2]int{{2, 2}}}, {3, [][2]int{{0, 1}, {1, 1}, {1, 2}}}, {3, [][2]int{{5, 5}}},
		{3, [][2]int{{0, 3}}}, {3, [][2]int{{3, 0}}}, {3, [][2]int{{0, -1}}}, {3, [][2]int{{-1, 0}}},
		{3, [][2]int{{0, 1}, {1, 2}, {2, 3}}},
		{3, [][2]int{{0, math.MaxInt}}}, {3, [][2]int{{math.MinInt, 0}}}, {1000, [][2]int{{0, 1000}}},
	}
}

func same(a, b [][]int) bool {
	return slices.EqualFunc(a, b, func(x, y []int) bool { return slices.Equal(x, y) })
}

// P5.1
func TestValid(t *testing.T) {
	for i, d := range invalid() {
		if graph.Valid(d.n, d.edges) {
			t.Errorf("graph %d, %d nodes, is valid", i, d.n)
		}
	}
	for i, d := range []drawing{
		{0, nil}, {0, [][2]int{}}, {1, nil}, {1000, nil}, chapter(), line(1000),
		{2, [][2]int{{0, 1}, {0, 1}, {1, 0}}}, {1000, slices.Repeat([][2]int{{0, 999}}, 4000)},
	} {
		if !graph.Valid(d.n, d.edges) {
			t.Errorf("graph %d, %d nodes, is not valid", i, d.n)
		}
	}
}

// P5.1 to P5.3: a graph that is not valid is the first error, whatever else is wrong.
func TestErrArg(t *testing.T) {
	for i, d := range invalid() {
		parts, partsE := graph.Parts(d.n, d.edges)
		forest, forestE := graph.Forest(d.n, d.edges)
		cycles, cyclesE := graph.Cycles(d.n, d.edges)
		bridges, bridgesE := graph.Bridges(d.n, d.edges)
		count, countE := graph.Count(d.n, d.edges)
		path, pathE := graph.Path(d.n, d.edges, 0, 0)
		far, farE := graph.Path(d.n, d.edges, -1, math.MaxInt)
		is, isE := graph.Cycle(d.n, d.edges, []int{0, 1})
		no, noE := graph.Cycle(d.n, d.edges, []int{-1})
		empty, emptyE := graph.Cycle(d.n, d.edges, nil)
		for _, e := range []api.Errno{partsE, forestE, cyclesE, bridgesE, countE, pathE, farE, isE, noE, emptyE} {
			if e != api.ErrArg {
				t.Errorf("graph %d, %d nodes: %d", i, d.n, e)
			}
		}
		if len(parts)+len(forest)+len(cycles)+len(bridges)+count+len(path)+len(far) != 0 || is || no || empty {
			t.Errorf("graph %d, %d nodes: results that are not zero", i, d.n)
		}
	}
}

// P5.1 to P5.3
func TestLists(t *testing.T) {
	for i, c := range []struct {
		d              drawing
		parts, cycles  [][]int
		forest, bridge []int
	}{
		{chapter(), [][]int{{0, 1, 2, 3}}, [][]int{{2, 1, 0}}, []int{0, 1, 3}, []int{3}},
		{drawing{}, nil, nil, nil, nil},
		{drawing{3, nil}, [][]int{{0}, {1}, {2}}, nil, nil, nil},
		// parts that are mixed, and become one late
		{drawing{6, [][2]int{{5, 1}, {4, 0}, {3, 1}}}, [][]int{{0, 4}, {1, 3, 5}, {2}}, nil, []int{0, 1, 2}, []int{0, 1, 2}},
		{drawing{6, [][2]int{{5, 4}, {3, 2}, {1, 0}, {4, 3}, {2, 1}}}, [][]int{{0, 1, 2, 3, 4, 5}}, nil, []int{0, 1, 2, 3, 4}, []int{0, 1, 2, 3, 4}},
		// several edges between the same nodes
		{drawing{2, [][2]int{{0, 1}, {0, 1}, {1, 0}}}, [][]int{{0, 1}}, [][]int{{1, 0}, {2, 0}}, []int{0}, nil},
		{drawing{3, [][2]int{{2, 1}, {1, 2}, {1, 0}}}, [][]int{{0, 1, 2}}, [][]int{{1, 0}}, []int{0, 2}, []int{2}},
		// the direction of an edge tells that of its cycle
		{drawing{4, [][2]int{{0, 1}, {1, 2}, {2, 3}, {3, 0}}}, [][]int{{0, 1, 2, 3}}, [][]int{{3, 0, 1, 2}}, []int{0, 1, 2}, nil},
		{drawing{4, [][2]int{{0, 1}, {1, 2}, {2, 3}, {0, 3}}}, [][]int{{0, 1, 2, 3}}, [][]int{{3, 2, 1, 0}}, []int{0, 1, 2}, nil},
		{drawing{4, [][2]int{{3, 2}, {1, 2}, {1, 0}, {0, 3}}}, [][]int{{0, 1, 2, 3}}, [][]int{{3, 0, 1, 2}}, []int{0, 1, 2}, nil},
		// a bridge between two triangles, and a node alone
		{drawing{7, [][2]int{{4, 5}, {5, 6}, {6, 4}, {2, 4}, {0, 1}, {1, 2}, {2, 0}}}, [][]int{{0, 1, 2, 4, 5, 6}, {3}},
			[][]int{{2, 0, 1}, {6, 4, 5}}, []int{0, 1, 3, 4, 5}, []int{3}},
		// two triangles with one node in common have no bridge
		{drawing{5, [][2]int{{0, 1}, {1, 2}, {2, 0}, {2, 3}, {3, 4}, {4, 2}}}, [][]int{{0, 1, 2, 3, 4}},
			[][]int{{2, 0, 1}, {5, 3, 4}}, []int{0, 1, 3, 4}, nil},
		// bridges that a search finds from the last one on
		{drawing{4, [][2]int{{2, 3}, {0, 1}, {1, 2}}}, [][]int{{0, 1, 2, 3}}, nil, []int{0, 1, 2}, []int{0, 1, 2}},
	} {
		if l, e := graph.Parts(c.d.n, c.d.edges); !same(l, c.parts) || e != api.OK {
			t.Errorf("case %d: parts %v, %d", i, l, e)
		}
		if l, e := graph.Forest(c.d.n, c.d.edges); !slices.Equal(l, c.forest) || e != api.OK {
			t.Errorf("case %d: forest %v, %d", i, l, e)
		}
		if l, e := graph.Cycles(c.d.n, c.d.edges); !same(l, c.cycles) || e != api.OK {
			t.Errorf("case %d: cycles %v, %d", i, l, e)
		}
		if l, e := graph.Bridges(c.d.n, c.d.edges); !slices.Equal(l, c.bridge) || e != api.OK {
			t.Errorf("case %d: bridges %v, %d", i, l, e)
		}
		if k, e := graph.Count(c.d.n, c.d.edges); k != len(c.cycles) || e != api.OK {
			t.Errorf("case %d: count %d, %d", i, k, e)
		}
	}
}

// knot is a triangle 0 1 2 whose side 0 1 is there twice, one more triangle 2 3 4 at a corner of it, and an edge beside them.
func knot() drawing {
	return drawing{7, [][2]int{{0, 1}, {1, 2}, {2, 0}, {2, 3}, {3, 4}, {4, 2}, {5, 6}, {1, 0}}}
}

// P5.2
func TestCycle(t *testing.T) {
	d := knot()
	for i, c := range []struct {
		list []int
		is   bool
		e    api.Errno
	}{
		{[]int{0, 1, 2}, true, api.OK}, {[]int{1, 2, 0}, true, api.OK}, {[]int{2, 1, 0}, true, api.OK},
		{[]int{7, 1, 2}, true, api.OK}, {[]int{2, 1, 7}, true, api.OK}, {[]int{3, 4, 5}, true, api.OK},
		{[]int{0, 7}, true, api.OK}, {[]int{7, 0}, true, api.OK},
		// too few, or the same ones again
		{nil, false, api.OK}, {[]int{}, false, api.OK}, {[]int{0}, false, api.OK}, {[]int{6}, false, api.OK},
		{[]int{0, 0}, false, api.OK}, {[]int{6, 6}, false, api.OK}, {[]int{0, 0, 0}, false, api.OK},
		{[]int{0, 7, 0, 7}, false, api.OK}, {[]int{0, 7, 0}, false, api.OK}, {[]int{0, 0, 7, 7}, false, api.OK},
		{[]int{0, 1, 2, 0, 1, 2}, false, api.OK}, {[]int{0, 1, 1, 0}, false, api.OK}, {[]int{1, 1, 0, 0}, false, api.OK},
		// not round, or beside
		{[]int{0, 1}, false, api.OK}, {[]int{0, 1, 3}, false, api.OK}, {[]int{0, 6}, false, api.OK}, {[]int{6, 0, 1, 2}, false, api.OK},
		{[]int{0, 1, 2, 6}, false, api.OK}, {[]int{0, 1, 2, 7}, false, api.OK},
		// through the node 2 twice
		{[]int{0, 1, 3, 4, 5, 2}, false, api.OK}, {[]int{3, 4, 5, 1, 0, 2}, false, api.OK}, {[]int{3, 4, 5, 2, 0, 1}, false, api.OK},
		// no indices, also where it is plain already that the list is no cycle
		{[]int{8}, false, api.ErrRange}, {[]int{-1}, false, api.ErrRange}, {[]int{0, 1, 8}, false, api.ErrRange},
		{[]int{0, 1, 2, -1}, false, api.ErrRange}, {[]int{0, 0, 8}, false, api.ErrRange}, {[]int{0, 6, math.MinInt}, false, api.ErrRange},
		{[]int{math.MaxInt, 0, 0}, false, api.ErrRange},
	} {
		if is, e := graph.Cycle(d.n, d.edges, c.list); is != c.is || e != c.e {
			t.Errorf("case %d: Cycle of %v is %t, %d", i, c.list, is, e)
		}
	}
	if is, e := graph.Cycle(4, [][2]int{{0, 1}, {1, 2}, {2, 3}, {3, 0}}, []int{0, 2, 1, 3}); is || e != api.OK {
		t.Error("edges in a wrong order:", is, e)
	}
	if is, e := graph.Cycle(2, nil, []int{0}); is || e != api.ErrRange {
		t.Error("without edges:", is, e)
	}
	if is, e := graph.Cycle(0, nil, nil); is || e != api.OK {
		t.Error("without nodes:", is, e)
	}
	if is, e := graph.Cycle(d.n, d.edges, make([]int, 100000)); is || e != api.OK {
		t.Error("a long list:", is, e)
	}
}

// P5.3
func TestPath(t *testing.T) {
	square := [][2]int{{2, 3}, {1, 3}, {0, 2}, {0, 1}}
	// from 0 to 3 over 1 or 2, each of them joined twice
	twice := [][2]int{{0, 2}, {0, 1}, {1, 3}, {0, 1}, {2, 3}, {1, 3}, {2, 3}}
	for i, c := range []struct {
		n     int
		edges [][2]int
		a, b  int
		list  []int
		e     api.Errno
	}{
		{4, chapter().edges, 0, 3, []int{2, 3}, api.OK}, {4, chapter().edges, 3, 0, []int{3, 2}, api.OK},
		{4, chapter().edges, 0, 1, []int{0}, api.OK}, {4, chapter().edges, 2, 2, nil, api.OK}, {1, nil, 0, 0, nil, api.OK},
		// of two paths with as many edges that one whose first edge has the lesser index
		{4, square, 0, 3, []int{2, 0}, api.OK}, {4, square, 3, 0, []int{0, 2}, api.OK},
		{4, square, 1, 2, []int{1, 0}, api.OK}, {4, square, 2, 1, []int{0, 1}, api.OK},
		{4, twice, 0, 3, []int{0, 4}, api.OK}, {4, twice, 3, 0, []int{2, 1}, api.OK}, {4, twice, 0, 1, []int{1}, api.OK},
		{2, [][2]int{{1, 0}, {0, 1}}, 0, 1, []int{0}, api.OK},
		// fewest edges, though there is a path that is first lexicographically
		{4, [][2]int{{0, 1}, {1, 2}, {2, 3}, {0, 3}}, 0, 3, []int{3}, api.OK},
		{3, [][2]int{{0, 1}}, 0, 2, nil, api.ErrNone}, {3, [][2]int{{0, 1}}, 2, 1, nil, api.ErrNone}, {2, nil, 1, 0, nil, api.ErrNone},
		{3, [][2]int{{0, 1}}, 3, 0, nil, api.ErrRange}, {3, [][2]int{{0, 1}}, 0, 3, nil, api.ErrRange},
		{3, [][2]int{{0, 1}}, -1, 0, nil, api.ErrRange}, {3, [][2]int{{0, 1}}, 0, -1, nil, api.ErrRange},
		{3, [][2]int{{0, 1}}, 3, 3, nil, api.ErrRange}, {3, [][2]int{{0, 1}}, math.MinInt, math.MaxInt, nil, api.ErrRange},
		{0, nil, 0, 0, nil, api.ErrRange},
	} {
		if list, e := graph.Path(c.n, c.edges, c.a, c.b); !slices.Equal(list, c.list) || e != c.e {
			t.Errorf("case %d: the path from %d to %d is %v, %d", i, c.a, c.b, list, e)
		}
	}
}
