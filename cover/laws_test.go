package cover_test

import (
	"math/rand"
	"slices"
	"strconv"
	"testing"

	"stirrup/api"
	"stirrup/box"
	"stirrup/cover"
	"stirrup/frame"
	"stirrup/laid"
	"stirrup/solid"
)

// room is how far the coordinates of small members go.
const room = 20

// raster tells of each cube of a millimetre in the room whether it is concrete.
type raster [2 * room][2 * room][2 * room]bool

// rasterOf returns which cubes are concrete, from the definition: no side runs through a cube, so that its centre tells
// of it. Coordinates count twice.
func rasterOf(s api.Solid) *raster {
	var r raster
	for i := range r {
		for j := range r[i] {
			for k := range r[i][j] {
				x, y, z := 2*(i-room)+1, 2*(j-room)+1, 2*(k-room)+1
				in := func(b api.Box) bool {
					return 2*b.Lo.X < x && x < 2*b.Hi.X && 2*b.Lo.Y < y && y < 2*b.Hi.Y && 2*b.Lo.Z < z && z < 2*b.Hi.Z
				}
				r[i][j][k] = slices.ContainsFunc(s.Boxes, in) && !slices.ContainsFunc(s.Holes, in)
			}
		}
	}
	return &r
}

// contains reports whether a box that has a width in each direction, as cores have, is contained.
func (r *raster) contains(b api.Box) bool {
	if min(b.Lo.X, b.Lo.Y, b.Lo.Z) < -room || max(b.Hi.X, b.Hi.Y, b.Hi.Z) > room {
		return false
	}
	for i := b.Lo.X + room; i < b.Hi.X+room; i++ {
		for j := b.Lo.Y + room; j < b.Hi.Y+room; j++ {
			if slices.Contains(r[i][j][b.Lo.Z+room:b.Hi.Z+room], false) {
				return false
			}
		}
	}
	return true
}

// longer returns a core of a leg that is made longer by a number on some of its sides.
func longer(leg api.Box, d, by int, sides ...int) api.Box {
	half := (d + 1) / 2
	b := from(leg.Lo.X-half, leg.Lo.Y-half, leg.Lo.Z-half, leg.Hi.X+half, leg.Hi.Y+half, leg.Hi.Z+half)
	for _, side := range sides {
		switch side {
		case 0:
			b.Lo.X -= by
		case 1:
			b.Hi.X += by
		case 2:
			b.Lo.Y -= by
		case 3:
			b.Hi.Y += by
		case 4:
			b.Lo.Z -= by
		case 5:
			b.Hi.Z += by
		}
	}
	return b
}

// greatest returns the greatest number from 0 on by which a core is contained when it is made longer, from all of them; or -1.
func (r *raster) greatest(leg api.Box, d int, sides ...int) int {
	most := -1
	for by := range 2*room + 1 {
		if r.contains(longer(leg, d, by, sides...)) {
			most = by
		}
	}
	return most
}

// coverOf returns the cover of a leg.
func (r *raster) coverOf(leg api.Box, d int) int { return r.greatest(leg, d, 0, 1, 2, 3, 4, 5) }

// some returns a random box with a width in each direction, and coordinates from -most to most.
func some(r *rand.Rand, most int) api.Box {
	two := func() (int, int) {
		a := r.Intn(2*most) - most
		return a, a + 1 + r.Intn(most-a)
	}
	var b api.Box
	b.Lo.X, b.Hi.X = two()
	b.Lo.Y, b.Hi.Y = two()
	b.Lo.Z, b.Hi.Z = two()
	return b
}

// someMember returns a random member with at most so many boxes and holes, of which the first box is great, and goes to most.
func someMember(r *rand.Rand, boxes, holes, most int) api.Member {
	m := of(from(-most, -r.Intn(most)-1, -r.Intn(most)-1, 1+r.Intn(most), most, most))
	for range r.Intn(boxes) {
		m.Solid.Boxes = append(m.Solid.Boxes, some(r, most))
	}
	for range r.Intn(holes + 1) {
		m.Solid.Holes = append(m.Solid.Holes, some(r, most))
	}
	// A hole that is small leaves more of the concrete.
	for i, hole := range m.Solid.Holes {
		m.Solid.Holes[i].Hi = at(min(hole.Hi.X, hole.Lo.X+1+most/8), min(hole.Hi.Y, hole.Lo.Y+1+most/8), min(hole.Hi.Z, hole.Lo.Z+1+most/8))
	}
	r.Shuffle(len(m.Solid.Boxes), func(i, j int) {
		m.Solid.Boxes[i], m.Solid.Boxes[j] = m.Solid.Boxes[j], m.Solid.Boxes[i]
	})
	return needing(m, r.Intn(6))
}

// someLeg returns a random leg along one of the axes, or a box of any kind, near the middle of a box of a member.
func someLeg(r *rand.Rand, m api.Member) api.Box {
	b := m.Solid.Boxes[r.Intn(len(m.Solid.Boxes))]
	inside := func(lo, hi int) int { return lo + r.Intn(hi-lo+1) }
	leg := dot(inside(b.Lo.X, b.Hi.X), inside(b.Lo.Y, b.Hi.Y), inside(b.Lo.Z, b.Hi.Z))
	kind := r.Intn(5)
	if kind == 0 || kind == 4 {
		leg.Hi.X = inside(leg.Lo.X, b.Hi.X)
	}
	if kind == 1 || kind == 4 {
		leg.Hi.Y = inside(leg.Lo.Y, b.Hi.Y)
	}
	if kind == 2 || kind == 4 {
		leg.Hi.Z = inside(leg.Lo.Z, b.Hi.Z)
	}
	return leg
}

// sizes are those of bars.
var sizes = []int{6, 8, 10, 12, 16, 20, 25, 32, 40}

// P18.1
func TestLegsAgreeWithTheDefinition(t *testing.T) {
	r := rand.New(rand.NewSource(181))
	contained := 0
	for range 250 {
		m := someMember(r, 4, 4, room)
		grid := rasterOf(m.Solid)
		for range 25 {
			d := sizes[r.Intn(5)]
			leg := someLeg(r, m)
			var sides [6]int
			for i := range sides {
				sides[i] = grid.greatest(leg, d, i)
			}
			checkLeg(t, m, d, leg, grid.coverOf(leg, d), sides, api.OK)
			if sides[0] >= 0 {
				contained++
			}
		}
	}
	if contained < 1000 {
		t.Errorf("only %d cores are contained", contained)
	}
}

// someBars returns a random schedule of small bars of all codes.
func someBars(r *rand.Rand) []api.Bar {
	codes := []int{api.Straight, api.Ell, api.You, api.Zed, api.Space, api.Hat, api.Link, api.Chair}
	dims := []int{1, 2, 3, 3, 3, 5, 3, 3}
	var bars []api.Bar
	for _, mark := range []string{"c", "a", "d", "b"}[:1+r.Intn(4)] {
		i := r.Intn(len(codes))
		b := bar(mark, sizes[r.Intn(3)], codes[i])
		for range dims[i] {
			b.Dims = append(b.Dims, 1+r.Intn(8))
		}
		bars = append(bars, b)
	}
	return bars
}

// someRuns returns random runs of the bars of a schedule, at most so far from the middle.
func someRuns(r *rand.Rand, bars []api.Bar, most int) []api.Run {
	near := func(n int) api.Point { return at(r.Intn(2*n+1)-n, r.Intn(2*n+1)-n, r.Intn(2*n+1)-n) }
	turns := frame.All()
	var runs []api.Run
	for range r.Intn(5) {
		l := api.Run{Mark: bars[r.Intn(len(bars))].Mark, Turn: turns[r.Intn(len(turns))], At: near(most), Step: near(2), Count: 1 + r.Intn(4)}
		if l.Step == (api.Point{}) {
			l.Step.Y = 1
		}
		runs = append(runs, l)
	}
	return runs
}

// sizeOf returns the size of a mark.
func sizeOf(bars []api.Bar, mark string) int {
	return bars[slices.IndexFunc(bars, func(b api.Bar) bool { return b.Mark == mark })].Size
}

// P18.2, P18.3
func TestLaidBarsAgreeWithTheDefinition(t *testing.T) {
	r := rand.New(rand.NewSource(182))
	covers := map[int]int{}
	for range 500 {
		m := someMember(r, 3, 2, room)
		grid := rasterOf(m.Solid)
		bars := someBars(r)
		runs := someRuns(r, bars, room/2)
		count, _ := laid.Count(bars, runs)
		number, least := 0, 1000
		var findings []api.Finding
		for i := range count {
			mark, _ := laid.Mark(bars, runs, i)
			legs, _ := laid.Legs(bars, runs, i)
			want := 1000
			for _, leg := range legs {
				want = min(want, grid.coverOf(leg, sizeOf(bars, mark)))
			}
			if want < least {
				number, least = i, want
			}
			if want < m.Cover {
				findings = append(findings, api.Finding{Kind: 1, Name: mark})
			}
			covers[want]++
			if n, e := cover.Bar(m, bars, runs, i); n != want || e != api.OK {
				t.Errorf("%v, %v, %v: the cover of %d is %d, not %d; %d", m.Solid, bars, runs, i, n, want, e)
			}
		}
		if l, e := cover.Check(m, bars, runs); !slices.Equal(l, findings) || e != api.OK {
			t.Errorf("%v, %v, %v: the findings are %v, not %v; %d", m, bars, runs, l, findings, e)
		}
		if i, n, e := cover.Least(m, bars, runs); count > 0 && (i != number || n != least || e != api.OK) {
			t.Errorf("%v, %v, %v: the least is %d of %d, not %d of %d; %d", m.Solid, bars, runs, n, i, least, number, e)
		}
	}
	for c := -1; c <= 5; c++ {
		if covers[c] < 20 {
			t.Errorf("only %d bars have the cover %d", covers[c], c)
		}
	}
}

// everywhere goes through so many random members, up to the limits, with legs in them.
func everywhere(r *rand.Rand, members int, check func(m api.Member, leg api.Box)) {
	for i := range members {
		m := someMember(r, api.MaxBoxes, 6, []int{100, 3000, far}[i%3])
		for range 6 {
			check(m, someLeg(r, m))
		}
	}
}

// isContained reports whether a member contains a box, which may be no valid one.
func isContained(m api.Member, b api.Box) bool {
	is, e := solid.Contains(m.Solid, b)
	return is && e == api.OK
}

// P18.4: with its cover a core is contained, and with one more it is not.
func TestCoresAreContainedWithTheirCover(t *testing.T) {
	r := rand.New(rand.NewSource(183))
	all := []int{0, 1, 2, 3, 4, 5}
	contained := 0
	everywhere(r, 150, func(m api.Member, leg api.Box) {
		d := sizes[r.Intn(len(sizes))]
		agrees := func(n int, sides ...int) {
			if n < -1 || n >= 0 && !isContained(m, longer(leg, d, n, sides...)) || isContained(m, longer(leg, d, n+1, sides...)) {
				t.Errorf("%v of the size %d in %v: %d along %v", leg, d, m.Solid, n, sides)
			}
			if n >= 0 {
				contained++
			}
		}
		n, e := cover.Of(m, d, leg)
		l, e2 := cover.Sides(m, d, leg)
		if e != api.OK || e2 != api.OK {
			t.Errorf("%v of the size %d in %v: %d, %d", leg, d, m.Solid, e, e2)
		}
		agrees(n, all...)
		for i, side := range l {
			agrees(side, i)
		}
	})
	if contained < 1000 {
		t.Errorf("only %d times a core was contained", contained)
	}
}

// P18.4: a part of a leg has no less cover, and a thinner bar neither; no side has less than the cover of the leg.
func TestPartsAndThinnerBars(t *testing.T) {
	r := rand.New(rand.NewSource(184))
	everywhere(r, 45, func(m api.Member, leg api.Box) {
		inside := func(lo, hi int) int { return lo + r.Intn(hi-lo+1) }
		part := leg
		part.Lo = at(inside(leg.Lo.X, leg.Hi.X), inside(leg.Lo.Y, leg.Hi.Y), inside(leg.Lo.Z, leg.Hi.Z))
		part.Hi = at(inside(part.Lo.X, leg.Hi.X), inside(part.Lo.Y, leg.Hi.Y), inside(part.Lo.Z, leg.Hi.Z))
		before := far
		for _, d := range sizes {
			n, _ := cover.Of(m, d, leg)
			if of, _ := cover.Of(m, d, part); of < n {
				t.Errorf("%v of the size %d in %v has the cover %d, but its part %v %d", leg, d, m.Solid, n, part, of)
			}
			if n > before {
				t.Errorf("%v in %v has the cover %d with the size %d, but %d with a lesser one", leg, m.Solid, n, d, before)
			}
			before = n
			if l, _ := cover.Sides(m, d, leg); slices.Min(l[:]) < n || (n < 0) != (l == none) {
				t.Errorf("%v of the size %d in %v has the cover %d, but on the sides %v", leg, d, m.Solid, n, l)
			}
		}
	})
}

// P18.4: there are no findings exactly if the least cover is at least that of the member.
func TestFindingsAndTheLeastCover(t *testing.T) {
	r := rand.New(rand.NewSource(185))
	passed, failed := 0, 0
	for range 600 {
		m := someMember(r, 3, 2, 2*room)
		bars := someBars(r)
		runs := someRuns(r, bars, room/2)
		_, least, e := cover.Least(m, bars, runs)
		if e == api.ErrEmpty {
			continue
		}
		for _, needed := range []int{m.Cover, max(0, least), max(0, least) + 1} {
			l, e := cover.Check(needing(m, needed), bars, runs)
			if (len(l) == 0) != (least >= needed) || e != api.OK {
				t.Errorf("%v, %v, %v: the least cover is %d, and for %d there are %v; %d", m.Solid, bars, runs, least, needed, l, e)
			}
			if len(l) == 0 {
				passed++
			} else {
				failed++
			}
		}
	}
	if passed < 200 || failed < 200 {
		t.Errorf("%d passed, and %d failed", passed, failed)
	}
}

// moved returns a box that is moved.
func moved(b api.Box, by api.Point) api.Box {
	return from(b.Lo.X+by.X, b.Lo.Y+by.Y, b.Lo.Z+by.Z, b.Hi.X+by.X, b.Hi.Y+by.Y, b.Hi.Z+by.Z)
}

// movedMember returns a member that is moved.
func movedMember(m api.Member, by api.Point) api.Member {
	m.Solid = api.Solid{Boxes: slices.Clone(m.Solid.Boxes), Holes: slices.Clone(m.Solid.Holes)}
	for _, l := range [][]api.Box{m.Solid.Boxes, m.Solid.Holes} {
		for i, b := range l {
			l[i] = moved(b, by)
		}
	}
	return m
}

// P18.4: what is moved together keeps its cover.
func TestMovedTogether(t *testing.T) {
	r := rand.New(rand.NewSource(186))
	for range 200 {
		m := someMember(r, 4, 2, 3*room)
		bars := someBars(r)
		runs := someRuns(r, bars, room)
		reach := far - 200
		by := at(r.Intn(2*reach)-reach, r.Intn(2*reach)-reach, r.Intn(2*reach)-reach)
		there := movedMember(m, by)
		runsThere, e := laid.Moved(runs, by)
		if e != api.OK {
			t.Fatalf("%v is not moved by %v: %d", runs, by, e)
		}
		leg := someLeg(r, m)
		if box.Valid(moved(leg, by)) {
			n, _ := cover.Of(m, 10, leg)
			sides, _ := cover.Sides(m, 10, leg)
			checkLeg(t, there, 10, moved(leg, by), n, sides, api.OK)
		}
		number, least, e := cover.Least(m, bars, runs)
		number2, least2, e2 := cover.Least(there, bars, runsThere)
		if number != number2 || least != least2 || e != e2 {
			t.Errorf("the least cover was %d of %d, %d, and is %d of %d, %d", least, number, e, least2, number2, e2)
		}
		l, e := cover.Check(m, bars, runs)
		l2, e2 := cover.Check(there, bars, runsThere)
		if !slices.Equal(l, l2) || e != e2 {
			t.Errorf("the findings were %v, %d, and are %v, %d", l, e, l2, e2)
		}
	}
}

// crowd returns the most laid bars in a member with the most boxes and holes: stacks of links, of which every third one
// has a hole beside it, at Z 500 to 700, nearer from stack to stack.
func crowd() (api.Member, []api.Bar, []api.Run) {
	m := needing(of(), 50)
	for i := range api.MaxBoxes {
		m.Solid.Boxes = append(m.Solid.Boxes, from(-far+i, -far+2*i, -far+3*i, far-4*i, far-5*i, far-6*i))
		x := 3000*i + 200 + 6 + 60 - i
		m.Solid.Holes = append(m.Solid.Holes, from(x, 0, 500, x+5, 10, 700))
	}
	var bars []api.Bar
	var runs []api.Run
	for i := range api.MaxRuns {
		mark := "m" + strconv.Itoa(i)
		bars = append(bars, bar(mark, 12, api.Link, 200, 500, 100))
		runs = append(runs, row(mark, 33+i/40, at(1000*i, 0, 0), at(0, 0, 50)))
	}
	return m, bars, runs
}

// P18.2, P18.3
func TestTheMostLaidBars(t *testing.T) {
	m, bars, runs := crowd()
	var want []api.Finding
	first, least := 0, far
	for i := range api.MaxLaid {
		n, e := cover.Bar(m, bars, runs, i)
		if e != api.OK {
			t.Fatalf("the cover of %d is %d, %d", i, n, e)
		}
		if mark, _ := laid.Mark(bars, runs, i); n < m.Cover {
			want = append(want, api.Finding{Kind: 1, Name: mark})
		}
		if n < least {
			first, least = i, n
		}
	}
	// The hole of the stack 57 is the nearest one; of its links that at Z 450 is 44 below it.
	if first != 40*33+17*34+10 || least != 41 {
		t.Errorf("the least is %d of %d", least, first)
	}
	if i, n, e := cover.Least(m, bars, runs); i != first || n != least || e != api.OK {
		t.Errorf("the least is %d of %d, not %d of %d; %d", n, i, least, first, e)
	}
	if l, e := cover.Check(m, bars, runs); !slices.Equal(l, want) || len(l) < 9*5 || e != api.OK {
		t.Errorf("the findings are %v, not %v; %d", l, want, e)
	}
}
