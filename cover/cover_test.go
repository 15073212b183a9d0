package cover_test

import (
	"math"
	"slices"
	"strings"
	"testing"

	"stirrup/api"
	"stirrup/cover"
)

const far = api.MaxLength

func at(x, y, z int) api.Point { return api.Point{X: x, Y: y, Z: z} }

// from makes a box of its lowest and its highest coordinates.
func from(a, b, c, d, e, f int) api.Box { return api.Box{Lo: at(a, b, c), Hi: at(d, e, f)} }

func dot(x, y, z int) api.Box { return from(x, y, z, x, y, z) }

// whole is the greatest box.
var whole = from(-far, -far, -far, far, far, far)

// of returns a member that is made of boxes.
func of(l ...api.Box) api.Member {
	return api.Member{Name: "m", Solid: api.Solid{Boxes: l}, Cover: 30, Aggregate: 16, Poker: 40}
}

// pierced returns a member with holes.
func pierced(m api.Member, holes ...api.Box) api.Member {
	m.Solid.Holes = holes
	return m
}

// needing returns a member that needs a cover.
func needing(m api.Member, cover int) api.Member {
	m.Cover = cover
	return m
}

// beam returns the member of the chapter's example.
func beam() api.Member { return of(from(0, 0, 0, 1000, 200, 300)) }

// none is what a core has on its sides that is not contained.
var none = [6]int{-1, -1, -1, -1, -1, -1}

func bar(mark string, size, code int, dims ...int) api.Bar {
	return api.Bar{Mark: mark, Size: size, Count: 1, Code: code, Dims: dims}
}

// run returns a run of one bar, which is not turned.
func run(mark string, place api.Point) api.Run {
	return api.Run{Mark: mark, Turn: api.Turn{X: 1, Y: 2}, At: place, Count: 1}
}

// row returns a run of several bars, which are not turned.
func row(mark string, count int, place, step api.Point) api.Run {
	return api.Run{Mark: mark, Turn: api.Turn{X: 1, Y: 2}, At: place, Step: step, Count: count}
}

// checkLeg checks what is said of a leg.
func checkLeg(t *testing.T, m api.Member, d int, leg api.Box, want int, sides [6]int, e api.Errno) {
	t.Helper()
	if n, got := cover.Of(m, d, leg); n != want || got != e {
		t.Errorf("%v of the size %d in %v: the cover is %d, not %d; %d", leg, d, m.Solid, n, want, got)
	}
	if l, got := cover.Sides(m, d, leg); l != sides || got != e {
		t.Errorf("%v of the size %d in %v: the covers on the sides are %v, not %v; %d", leg, d, m.Solid, l, sides, got)
	}
}

// P18.1
func TestLegs(t *testing.T) {
	leg := from(50, 40, 60, 900, 40, 60)
	ell := of(from(0, 0, 0, 300, 100, 100), from(200, 0, 0, 300, 100, 400))
	halves := of(from(0, 0, 0, 100, 100, 100), from(100, 0, 0, 250, 100, 100))
	apart := of(from(0, 0, 0, 100, 100, 100), from(101, 0, 0, 250, 100, 100))
	diagonal := of(from(0, 0, 0, 100, 100, 100), from(100, 100, 0, 200, 200, 100))
	for _, c := range []struct {
		m     api.Member
		d     int
		leg   api.Box
		want  int
		sides [6]int
	}{
		{beam(), 10, leg, 35, [6]int{45, 95, 35, 155, 55, 235}},
		// Each side may be the nearest one, and each is told in its place.
		{of(from(-1, 0, 0, 100, 100, 100)), 10, dot(50, 51, 52), 43, [6]int{46, 45, 46, 44, 47, 43}},
		{beam(), 10, from(25, 100, 150, 900, 100, 150), 20, [6]int{20, 95, 95, 95, 145, 145}},
		{beam(), 10, from(100, 100, 150, 975, 100, 150), 20, [6]int{95, 20, 95, 95, 145, 145}},
		{beam(), 10, from(100, 25, 150, 900, 25, 150), 20, [6]int{95, 95, 20, 170, 145, 145}},
		{beam(), 10, from(100, 175, 150, 900, 175, 150), 20, [6]int{95, 95, 170, 20, 145, 145}},
		{beam(), 10, from(100, 100, 25, 900, 100, 25), 20, [6]int{95, 95, 95, 95, 20, 270}},
		{beam(), 10, from(100, 100, 275, 900, 100, 275), 20, [6]int{95, 95, 95, 95, 270, 20}},
		// The core touches a side, or all of them, or goes beyond it.
		{beam(), 10, from(5, 100, 150, 900, 100, 150), 0, [6]int{0, 95, 95, 95, 145, 145}},
		{beam(), 10, from(4, 100, 150, 900, 100, 150), -1, none},
		{beam(), 10, from(100, 100, 150, 996, 100, 150), -1, none},
		{beam(), 10, from(100, 4, 150, 900, 4, 150), -1, none},
		{beam(), 10, from(100, 196, 150, 900, 196, 150), -1, none},
		{beam(), 10, from(100, 100, 4, 900, 100, 4), -1, none},
		{beam(), 10, from(100, 100, 296, 900, 100, 296), -1, none},
		{of(from(0, 0, 0, 10, 10, 10)), 10, dot(5, 5, 5), 0, [6]int{}},
		{of(from(0, 0, 0, 10, 10, 9)), 10, dot(5, 5, 5), -1, none},
		{beam(), 10, dot(-500, 100, 150), -1, none},
		// Legs may be any boxes.
		{beam(), 10, from(50, 40, 60, 900, 140, 60), 35, [6]int{45, 95, 35, 55, 55, 235}},
		{beam(), 10, from(50, 40, 60, 900, 140, 280), 15, [6]int{45, 95, 35, 55, 55, 15}},
		{beam(), 40, from(50, 40, 60, 900, 140, 260), 20, [6]int{30, 80, 20, 40, 40, 20}},
		{beam(), 40, from(0, 0, 0, 1000, 200, 300), -1, none},
		// Holes count like sides, where they are in the way; a core that touches one is still contained.
		{pierced(beam(), from(400, 0, 100, 500, 200, 150)), 10, from(50, 100, 60, 950, 100, 60), 35, [6]int{45, 45, 95, 95, 55, 35}},
		{pierced(beam(), from(400, 0, 100, 500, 200, 150)), 10, from(50, 100, 60, 350, 100, 60), 45, [6]int{45, 645, 95, 95, 55, 235}},
		{pierced(beam(), from(400, 0, 100, 500, 200, 150)), 10, from(50, 100, 125, 350, 100, 125), 45, [6]int{45, 45, 95, 95, 120, 170}},
		{pierced(beam(), from(400, 0, 100, 500, 200, 150)), 10, from(50, 100, 95, 950, 100, 95), 0, [6]int{45, 45, 95, 95, 90, 0}},
		{pierced(beam(), from(400, 0, 100, 500, 200, 150)), 10, from(50, 100, 155, 950, 100, 155), 0, [6]int{45, 45, 95, 95, 0, 140}},
		{pierced(beam(), from(400, 0, 100, 500, 200, 150)), 10, from(50, 100, 96, 950, 100, 96), -1, none},
		{pierced(beam(), from(400, 0, 100, 500, 200, 150)), 10, dot(450, 100, 125), -1, none},
		{pierced(beam(), from(449, 99, 149, 451, 101, 151)), 10, from(100, 100, 150, 900, 100, 150), -1, none},
		// A hole at a corner is in the way of all sides together, but of none alone.
		{pierced(beam(), from(0, 0, 0, 80, 80, 80)), 10, dot(100, 100, 100), 15, [6]int{95, 895, 95, 95, 95, 195}},
		// A hole beyond a side, or one that touches it, takes nothing away.
		{pierced(beam(), from(-20, 0, 0, 0, 200, 300), from(1005, 0, 0, 1010, 200, 300)), 10, leg, 35, [6]int{45, 95, 35, 155, 55, 235}},
		// Boxes that touch are one concrete, boxes with a millimetre between them, or with an edge in common, are not.
		{halves, 10, dot(50, 50, 50), 45, [6]int{45, 195, 45, 45, 45, 45}},
		{halves, 10, dot(100, 50, 50), 45, [6]int{95, 145, 45, 45, 45, 45}},
		{apart, 10, dot(50, 50, 50), 45, [6]int{45, 45, 45, 45, 45, 45}},
		{apart, 10, dot(90, 50, 50), 5, [6]int{85, 5, 45, 45, 45, 45}},
		{apart, 10, dot(100, 50, 50), -1, none},
		{apart, 10, dot(150, 50, 50), 44, [6]int{44, 95, 45, 45, 45, 45}},
		{diagonal, 10, dot(100, 100, 50), -1, none},
		{diagonal, 10, dot(90, 90, 50), 5, [6]int{85, 5, 85, 5, 45, 45}},
		// In the corner of an ell the concrete goes on in two directions.
		{ell, 10, dot(250, 50, 50), 45, [6]int{245, 45, 45, 45, 45, 345}},
		{ell, 10, from(50, 50, 50, 250, 50, 50), 45, [6]int{45, 45, 45, 45, 45, 45}},
		{ell, 10, from(250, 50, 50, 250, 50, 350), 45, [6]int{45, 45, 45, 45, 45, 45}},
		{ell, 10, from(220, 50, 50, 220, 50, 90), 15, [6]int{215, 75, 45, 45, 45, 305}},
		{ell, 10, from(220, 50, 50, 220, 50, 96), 15, [6]int{15, 75, 45, 45, 45, 299}},
	} {
		checkLeg(t, c.m, c.d, c.leg, c.want, c.sides, api.OK)
	}
}

// P18.1: half of a size is rounded up.
func TestSizes(t *testing.T) {
	for _, c := range [][2]int{{6, 3}, {8, 4}, {10, 5}, {12, 6}, {16, 8}, {20, 10}, {25, 13}, {32, 16}, {40, 20}} {
		d, half := c[0], c[1]
		checkLeg(t, of(from(0, 0, 0, 1000, 1100, 1200)), d, dot(100, 200, 300), 100-half,
			[6]int{100 - half, 900 - half, 200 - half, 900 - half, 300 - half, 900 - half}, api.OK)
		tight := of(from(-half, -half, -half, half, half, half))
		checkLeg(t, tight, d, dot(0, 0, 0), 0, [6]int{}, api.OK)
		for _, leg := range []api.Box{dot(1, 0, 0), dot(-1, 0, 0), dot(0, 1, 0), dot(0, -1, 0), dot(0, 0, 1), dot(0, 0, -1)} {
			checkLeg(t, tight, d, leg, -1, none, api.OK)
		}
	}
}

// P18.1: up to the limits of coordinates.
func TestLimits(t *testing.T) {
	all := of(whole)
	checkLeg(t, all, 6, dot(0, 0, 0), far-3, [6]int{far - 3, far - 3, far - 3, far - 3, far - 3, far - 3}, api.OK)
	checkLeg(t, all, 40, dot(0, 0, 0), far-20, [6]int{far - 20, far - 20, far - 20, far - 20, far - 20, far - 20}, api.OK)
	checkLeg(t, all, 10, dot(5-far, far-5, 0), 0, [6]int{0, 2*far - 10, 2*far - 10, 0, far - 5, far - 5}, api.OK)
	checkLeg(t, all, 10, dot(far-7, 7-far, far-8), 2, [6]int{2*far - 12, 2, 2, 2*far - 12, 2*far - 13, 3}, api.OK)
	checkLeg(t, all, 10, from(5-far, 5-far, 5-far, far-5, far-5, far-5), 0, [6]int{}, api.OK)
	// A core that is no valid box is not contained.
	for _, leg := range []api.Box{
		whole, dot(far, 0, 0), dot(0, far, 0), dot(0, 0, far), dot(-far, 0, 0), dot(0, -far, 0), dot(0, 0, -far),
		dot(far-4, 0, 0), dot(0, far-4, 0), dot(0, 0, far-4), dot(4-far, 0, 0), dot(0, 4-far, 0), dot(0, 0, 4-far),
	} {
		checkLeg(t, all, 10, leg, -1, none, api.OK)
	}
	// Of twice the range, half is taken away.
	checkLeg(t, pierced(all, from(0, -far, -far, far, far, far)), 6, dot(3-far, 0, 0), 0, [6]int{0, far - 6, far - 3, far - 3, far - 3, far - 3}, api.OK)
}

// badMembers returns members that are not valid, each for one reason.
func badMembers() []api.Member {
	thin := from(0, 0, 0, 1000, 200, 0)
	var l []api.Member
	for _, change := range []func(m *api.Member){
		func(m *api.Member) { *m = api.Member{} },
		func(m *api.Member) { m.Name = "" },
		func(m *api.Member) { m.Name = "1m" },
		func(m *api.Member) { m.Name = strings.Repeat("n", api.MaxName+1) },
		func(m *api.Member) { m.Cover = -1 },
		func(m *api.Member) { m.Cover = 201 },
		func(m *api.Member) { m.Aggregate = 0 },
		func(m *api.Member) { m.Aggregate = 101 },
		func(m *api.Member) { m.Poker = 0 },
		func(m *api.Member) { m.Poker = 201 },
		func(m *api.Member) { m.Solid.Boxes = nil },
		func(m *api.Member) { m.Solid.Boxes = append(m.Solid.Boxes, thin) },
		func(m *api.Member) { m.Solid.Boxes = slices.Repeat(m.Solid.Boxes, api.MaxBoxes+1) },
		func(m *api.Member) { m.Solid.Holes = []api.Box{thin} },
		func(m *api.Member) { m.Solid.Holes = slices.Repeat(m.Solid.Boxes, api.MaxBoxes+1) },
		func(m *api.Member) { m.Solid.Boxes[0].Lo.X = -far - 1 },
		func(m *api.Member) { m.Solid.Boxes[0].Hi.Z = math.MaxInt },
	} {
		m := beam()
		change(&m)
		l = append(l, m)
	}
	return l
}

// badLegs returns boxes that are not valid, each for one reason.
func badLegs() []api.Box {
	return []api.Box{
		from(1, 0, 0, 0, 0, 0), from(0, 1, 0, 0, 0, 0), from(0, 0, 1, 0, 0, 0), from(500, 100, 150, 499, 100, 150),
		dot(far+1, 0, 0), dot(0, far+1, 0), dot(0, 0, far+1), dot(-far-1, 0, 0), dot(0, -far-1, 0), dot(0, 0, -far-1),
		from(-far-1, 0, 0, 0, 0, 0), from(0, 0, 0, 0, far+1, 0), dot(math.MaxInt, 0, 0), dot(0, math.MinInt, 0),
		from(math.MinInt, math.MinInt, math.MinInt, math.MaxInt, math.MaxInt, math.MaxInt),
	}
}

// P18.1: errors come in their order.
func TestOnlyValidLegs(t *testing.T) {
	noSizes := []int{0, -1, 1, 5, 7, 9, 11, 14, 15, 24, 26, 39, 41, 50, -10, 1 << 32, 1<<32 + 10, math.MaxInt, math.MinInt}
	leg := from(50, 40, 60, 900, 40, 60)
	for _, d := range noSizes {
		checkLeg(t, beam(), d, leg, 0, [6]int{}, api.ErrKind)
		checkLeg(t, beam(), d, whole, 0, [6]int{}, api.ErrKind)
	}
	for _, d := range append(noSizes, 10) {
		for _, m := range badMembers() {
			checkLeg(t, m, d, leg, 0, [6]int{}, api.ErrArg)
		}
		for _, bad := range badLegs() {
			checkLeg(t, beam(), d, bad, 0, [6]int{}, api.ErrArg)
			checkLeg(t, of(whole), d, bad, 0, [6]int{}, api.ErrArg)
		}
	}
}

// known is what is known of a laid bar.
type known struct {
	mark  string
	cover int
}

// cage returns a schedule, its runs in the beam, and the laid bars, reckoned by hand.
func cage() ([]api.Bar, []api.Run, []known) {
	bars := []api.Bar{
		bar("c", 8, api.Link, 130, 230, 40), bar("a", 10, api.Straight, 800), bar("d", 40, api.Space, 300, 60, 90), bar("b", 25, api.Ell, 100, 120),
	}
	runs := []api.Run{
		// From X 100 to 900, at the Y 100, 80, 60, 40, 20, and 0.
		row("a", 6, at(100, 100, 150), at(0, -20, 0)),
		// The second leg is from Y 100 to 220, and its core reaches to 233.
		run("b", at(600, 100, 33)),
		// The second leg is from Y 50 to 170, and its core reaches to 183.
		run("b", at(200, 50, 33)),
		// X goes to Y, and Y, of which the link begins by going down 40, to Z: the first one is from Y 35 to 165, and Z 35 to 265.
		{Mark: "c", Turn: api.Turn{X: 2, Y: 3}, At: at(50, 35, 75), Step: at(300, 1, 2), Count: 3},
		// The cores reach from X 80 to 420, Y 30 to 130, and Z 110 to 240.
		run("d", at(100, 50, 130)),
		row("a", 1, at(150, 30, 270), at(math.MaxInt, math.MinInt, 0)),
	}
	return bars, runs, []known{
		{"a", 95}, {"a", 75}, {"a", 55}, {"a", 35}, {"a", 15}, {"a", -1}, {"b", -1}, {"b", 17}, {"c", 31}, {"c", 29}, {"c", 27}, {"d", 30}, {"a", 25},
	}
}

// P18.2
func TestLaidBars(t *testing.T) {
	bars, runs, l := cage()
	for i, c := range l {
		if n, e := cover.Bar(beam(), bars, runs, i); n != c.cover || e != api.OK {
			t.Errorf("the cover of %d is %d, not %d; %d", i, n, c.cover, e)
		}
	}
	for _, i := range []int{-1, -2, -13, len(l), len(l) + 1, 2000, 1 << 32, -1 << 32, math.MaxInt, math.MinInt} {
		if n, e := cover.Bar(beam(), bars, runs, i); n != 0 || e != api.ErrRange {
			t.Errorf("the cover of %d is %d, %d", i, n, e)
		}
	}
	for _, i := range []int{-1, 0, 1} {
		if n, e := cover.Bar(beam(), bars, nil, i); n != 0 || e != api.ErrRange {
			t.Errorf("without runs, the cover of %d is %d, %d", i, n, e)
		}
	}
}

// P18.2: each leg may be that with the least cover.
func TestEachLegCounts(t *testing.T) {
	chair := bar("a", 10, api.Chair, 100, 200, 300)
	// The legs are around the points (0, 0, 50), (0, -100, 100), (150, -200, 100), (300, -100, 100), and (300, 0, 150).
	block := of(from(-90, -290, -90, 390, 90, 290))
	for i, c := range []struct {
		holes []api.Box
		want  int
	}{
		{nil, 85},
		{[]api.Box{from(20, -5, 45, 22, 5, 55)}, 15},
		{[]api.Box{from(-5, -105, 130, 5, -95, 133)}, 25},
		{[]api.Box{from(145, -205, 60, 155, -195, 67)}, 28},
		{[]api.Box{from(300, -105, 106, 301, -95, 108)}, 1},
		{[]api.Box{from(305, -5, 145, 309, 5, 155)}, 0},
		{[]api.Box{from(304, -5, 145, 309, 5, 155)}, -1},
		{[]api.Box{from(20, -5, 45, 22, 5, 55), from(-5, -105, 130, 5, -95, 133), from(145, -205, 60, 155, -195, 67)}, 15},
		{[]api.Box{from(0, -5, 55, 1, 5, 60), from(145, -205, 60, 155, -195, 67)}, -1},
	} {
		n, e := cover.Bar(pierced(block, c.holes...), []api.Bar{chair}, []api.Run{run("a", at(0, 0, 0))}, 0)
		if n != c.want || e != api.OK {
			t.Errorf("%d: the cover is %d, not %d; %d", i, n, c.want, e)
		}
	}
}

// P18.2
func TestLeast(t *testing.T) {
	bars, runs, l := cage()
	for first := range runs {
		for last := first + 1; last <= len(runs); last++ {
			skipped, count := 0, 0
			for i, run := range runs[:last] {
				if i < first {
					skipped += run.Count
				} else {
					count += run.Count
				}
			}
			want, least := 0, math.MaxInt
			for i, c := range l[skipped : skipped+count] {
				if c.cover < least {
					want, least = i, c.cover
				}
			}
			i, n, e := cover.Least(beam(), bars, runs[first:last])
			if i != want || n != least || e != api.OK {
				t.Errorf("of the runs from %d on before %d the least is %d of %d, not %d of %d; %d", first, last, n, i, least, want, e)
			}
		}
	}
	for _, runs := range [][]api.Run{nil, {}} {
		for _, bars := range [][]api.Bar{bars, nil} {
			if i, n, e := cover.Least(beam(), bars, runs); i != 0 || n != 0 || e != api.ErrEmpty {
				t.Errorf("without laid bars the least is %d of %d, %d", n, i, e)
			}
		}
	}
}

// P18.2: of several bars with the least cover, the first one, and only one with less comes before it.
func TestFirstOfSeveral(t *testing.T) {
	bars := []api.Bar{bar("a", 10, api.Straight, 800), bar("b", 10, api.Straight, 700)}
	for _, c := range []struct{ places, want []int }{
		{[]int{50}, []int{0, 45}},
		{[]int{50, 50, 50}, []int{0, 45}},
		{[]int{51, 50, 50}, []int{1, 45}},
		{[]int{51, 50, 49, 50, 49}, []int{2, 44}},
		{[]int{60, 5, 6, 5}, []int{1, 0}},
		{[]int{60, 5, 4, 5, 4}, []int{2, -1}},
		{[]int{60, 4, 3, 5, 0, -100}, []int{1, -1}},
		{[]int{150, 50, 150}, []int{0, 45}},
		{[]int{151, 50, 150}, []int{0, 44}},
		{[]int{40, 160, 40}, []int{0, 35}},
		{[]int{40, 161, 40}, []int{1, 34}},
	} {
		var runs []api.Run
		for i, y := range c.places {
			runs = append(runs, run([]string{"a", "b"}[i%2], at(100, y, 150)))
		}
		if i, n, e := cover.Least(beam(), bars, runs); i != c.want[0] || n != c.want[1] || e != api.OK {
			t.Errorf("%v: the least is %d of %d, not %v; %d", c.places, n, i, c.want, e)
		}
	}
}

// P18.2: up to the limits of coordinates.
func TestLaidBarsUpToTheLimits(t *testing.T) {
	bars := []api.Bar{bar("a", 6, api.Straight, 1), bar("b", 6, api.Straight, 2), bar("c", 6, api.Straight, far/4)}
	for _, c := range []struct {
		runs         []api.Run
		number, want int
	}{
		{[]api.Run{run("a", at(0, 0, 0))}, 0, far - 4},
		{[]api.Run{run("b", at(-1, 0, 0)), run("a", at(0, 0, 0)), run("b", at(0, 0, 0))}, 2, far - 5},
		{[]api.Run{run("a", at(-5, 7, 0)), run("c", at(-far/8, 0, 0)), run("a", at(far-4, 0, 0)), run("a", at(far-1, 0, 0))}, 3, -1},
		{[]api.Run{run("a", at(-5, 7, 0)), run("c", at(-far/8, 0, 0)), run("a", at(far-4, 0, 0))}, 2, 0},
		{[]api.Run{run("a", at(-5, 7, 0)), run("c", at(-far/8, 0, 0))}, 1, far - far/8 - 3},
	} {
		if i, n, e := cover.Least(of(whole), bars, c.runs); i != c.number || n != c.want || e != api.OK {
			t.Errorf("%v: the least is %d of %d, not %d of %d; %d", c.runs, n, i, c.want, c.number, e)
		}
		if n, e := cover.Bar(of(whole), bars, c.runs, c.number); n != c.want || e != api.OK {
			t.Errorf("%v: the cover of %d is %d, not %d; %d", c.runs, c.number, n, c.want, e)
		}
	}
}

// P18.3
func TestCheck(t *testing.T) {
	bars, runs, l := cage()
	for needed := range 201 {
		var want []api.Finding
		for _, c := range l {
			if c.cover < needed {
				want = append(want, api.Finding{Kind: 1, Name: c.mark})
			}
		}
		if got, e := cover.Check(needing(beam(), needed), bars, runs); !slices.Equal(got, want) || e != api.OK {
			t.Errorf("a cover of %d: %v, not %v; %d", needed, got, want, e)
		}
	}
	for _, runs := range [][]api.Run{nil, {}} {
		for _, bars := range [][]api.Bar{bars, nil} {
			if got, e := cover.Check(needing(beam(), 200), bars, runs); len(got) != 0 || e != api.OK {
				t.Errorf("without laid bars: %v, %d", got, e)
			}
		}
	}
}

// P18.3: at most 1000 findings.
func TestManyFindings(t *testing.T) {
	bars := []api.Bar{bar("a", 10, api.Straight, 100), bar("b", 10, api.Straight, 100)}
	block := of(from(0, 0, 0, 2000, 2000, 2000))
	good := func(n int) api.Run { return row("a", n, at(50, 500, 50), at(0, 1, 0)) }
	bad := func(n int) api.Run { return row("b", n, at(50, 500, 34), at(0, 1, 0)) }
	for i, c := range []struct {
		runs []api.Run
		n    int
		e    api.Errno
	}{
		{[]api.Run{good(1000), good(1000)}, 0, api.OK},
		{[]api.Run{bad(999), good(1000)}, 999, api.OK},
		{[]api.Run{bad(1000)}, 1000, api.OK},
		{[]api.Run{bad(1000), good(1000)}, 1000, api.OK},
		{[]api.Run{good(1000), bad(1000)}, 1000, api.OK},
		{[]api.Run{good(500), bad(500), good(500), bad(500)}, 1000, api.OK},
		{[]api.Run{bad(1000), bad(1)}, 0, api.ErrFull},
		{[]api.Run{bad(1000), good(999), bad(1)}, 0, api.ErrFull},
		{[]api.Run{good(999), bad(1), bad(1000)}, 0, api.ErrFull},
		{[]api.Run{bad(1000), bad(1000)}, 0, api.ErrFull},
	} {
		l, e := cover.Check(block, bars, c.runs)
		wrong := func(f api.Finding) bool { return f != api.Finding{Kind: 1, Name: "b"} }
		if len(l) != c.n || slices.ContainsFunc(l, wrong) || e != c.e {
			t.Errorf("%d: %d findings, not %d; %d", i, len(l), c.n, e)
		}
	}
}

// refuses checks that all functions with a schedule return ErrArg.
func refuses(t *testing.T, name string, m api.Member, bars []api.Bar, runs []api.Run) {
	t.Helper()
	for _, i := range []int{0, 1, -1, 5000, math.MinInt, math.MaxInt} {
		if n, e := cover.Bar(m, bars, runs, i); n != 0 || e != api.ErrArg {
			t.Errorf("%s: the cover of %d is %d, %d", name, i, n, e)
		}
	}
	if l, e := cover.Check(m, bars, runs); len(l) != 0 || e != api.ErrArg {
		t.Errorf("%s: findings %v, %d", name, l, e)
	}
	if i, n, e := cover.Least(m, bars, runs); i != 0 || n != 0 || e != api.ErrArg {
		t.Errorf("%s: the least is %d of %d, %d", name, n, i, e)
	}
}

// P18.2, P18.3: errors come in their order.
func TestOnlyValidRuns(t *testing.T) {
	bars, runs, _ := cage()
	for _, m := range badMembers() {
		refuses(t, "a member", m, bars, runs)
		refuses(t, "a member, nothing laid", m, bars, nil)
		refuses(t, "a member, nothing at all", m, nil, nil)
		refuses(t, "a member, too many findings", m, bars, []api.Run{row("a", 1000, at(0, 0, 0), at(0, 0, 1)), row("a", 1000, at(0, 0, 0), at(0, 0, 1))})
	}
	straight := bar("a", 10, api.Straight, 800)
	for _, l := range [][]api.Bar{
		nil, {straight, straight}, {bar("", 10, api.Straight, 800), straight}, {bar("a", 11, api.Straight, 800)}, {bar("a", 10, 12, 800)},
		{bar("a", 10, api.Straight)}, {bar("a", 10, api.Straight, 0)}, {bar("a", 10, api.Straight, far)}, {{Mark: "a", Size: 10, Dims: []int{800}}},
		slices.Repeat([]api.Bar{straight}, api.MaxBars+1), {bar("b", 10, api.Straight, 800)},
	} {
		refuses(t, "a schedule", beam(), l, []api.Run{run("a", at(100, 100, 150))})
		if len(l) > 1 {
			refuses(t, "a schedule, nothing laid", beam(), l, nil)
		}
	}
	for _, r := range []api.Run{
		{}, run("x", at(0, 0, 0)), run("", at(0, 0, 0)), row("a", 0, at(0, 0, 0), at(0, 0, 1)), row("a", -1, at(0, 0, 0), at(0, 0, 1)),
		row("a", 1001, at(0, 0, 0), at(0, 0, 1)), row("a", 2, at(0, 0, 0), at(0, 0, 0)), run("a", at(far-799, 0, 0)), run("a", at(0, far+1, 0)),
		row("a", 2, at(0, 0, 0), at(0, 0, far+1)), {Mark: "a", Count: 1}, {Mark: "a", Turn: api.Turn{X: 1, Y: -1}, Count: 1},
	} {
		refuses(t, "a run", beam(), bars, []api.Run{r})
		refuses(t, "the first run", beam(), bars, append([]api.Run{r}, runs...))
		refuses(t, "the last run", beam(), bars, append(slices.Clone(runs), r))
	}
	refuses(t, "many runs", beam(), bars, slices.Repeat([]api.Run{run("a", at(100, 100, 150))}, api.MaxRuns+1))
	many := row("a", 1000, at(0, 0, 0), at(0, 0, 1))
	refuses(t, "many bars", beam(), bars, []api.Run{many, many, run("a", at(0, 0, 0))})
}

// P18.1, P18.2, P18.3
func TestArgumentsStayAsTheyAre(t *testing.T) {
	m, before := pierced(beam(), from(400, 0, 100, 500, 200, 150)), pierced(beam(), from(400, 0, 100, 500, 200, 150))
	bars, runs, _ := cage()
	oldBars, oldRuns, _ := cage()
	cover.Of(m, 10, from(50, 40, 60, 900, 40, 60))
	cover.Sides(m, 10, from(50, 40, 60, 900, 40, 60))
	cover.Bar(m, bars, runs, 5)
	cover.Least(m, bars, runs)
	l, _ := cover.Check(m, bars, runs)
	again, _ := cover.Check(m, bars, runs)
	clear(l)
	if slices.Contains(again, api.Finding{}) {
		t.Error("the findings of two calls share their memory")
	}
	if !slices.Equal(m.Solid.Boxes, before.Solid.Boxes) || !slices.Equal(m.Solid.Holes, before.Solid.Holes) {
		t.Errorf("%v has become %v", before, m)
	}
	if !slices.Equal(runs, oldRuns) || !slices.EqualFunc(bars, oldBars, func(a, b api.Bar) bool {
		return a.Mark == b.Mark && a.Size == b.Size && a.Count == b.Count && a.Code == b.Code && slices.Equal(a.Dims, b.Dims)
	}) {
		t.Errorf("the schedule has become %v, %v", bars, runs)
	}
}
