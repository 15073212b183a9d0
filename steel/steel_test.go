package steel_test

import (
	"math"
	"slices"
	"testing"

	"stirrup/api"
	"stirrup/steel"
)

const (
	far  = api.MaxLength
	most = api.MaxArea
)

// table has what the chapter says of each size, reckoned by hand: the area, the bend radius, the half, and the masses of
// 1000 and of MaxLength.
var table = []struct{ size, area, bend, half, mass, longest int }{
	{6, 2827, 15, 3, 222, 232721},
	{8, 5027, 20, 4, 395, 413726},
	{10, 7854, 25, 5, 617, 646447},
	{12, 11310, 30, 6, 888, 930884},
	{16, 20106, 40, 8, 1578, 1654905},
	{20, 31416, 80, 10, 2466, 2585788},
	{25, 49088, 100, 13, 3853, 4040294},
	{32, 80425, 128, 16, 6313, 6619618},
	{40, 125664, 160, 20, 9864, 10343154},
}

// sizes returns the sizes of the table.
func sizes() []int {
	var l []int
	for _, row := range table {
		l = append(l, row.size)
	}
	return l
}

// notSizes returns numbers that are no sizes: all others up to 200, and great ones, among them some whose lowest bits are
// those of a size.
func notSizes() []int {
	l := []int{
		math.MinInt, math.MaxInt, math.MinInt + 6, math.MaxInt - 5, 1<<32 + 6, 1<<32 + 16, 1<<62 + 10, 1<<63 - 40, -(1 << 32),
		-1 << 62, 1 << 31, 1 << 20, 1<<20 + 1, 256 + 6, 65536 + 40,
	}
	for d := -200; d <= 200; d++ {
		if !slices.Contains(sizes(), d) {
			l = append(l, d)
		}
	}
	return l
}

// P11.1
func TestSizes(t *testing.T) {
	if l := steel.Sizes(); !slices.Equal(l, sizes()) || !slices.IsSorted(l) {
		t.Errorf("the sizes are %v", l)
	}
	for _, d := range sizes() {
		if !steel.Size(d) {
			t.Errorf("%d is no size", d)
		}
	}
	for _, d := range notSizes() {
		if steel.Size(d) {
			t.Errorf("%d is a size", d)
		}
	}
}

// P11.1: what is done to a list of the sizes changes no other one, and no result.
func TestSizesHaveTheirOwnMemory(t *testing.T) {
	first, second := steel.Sizes(), steel.Sizes()
	clear(first[:cap(first)])
	if third := steel.Sizes(); !slices.Equal(second, sizes()) || !slices.Equal(third, sizes()) {
		t.Errorf("the sizes are %v, and then %v", second, third)
	}
	for _, row := range table {
		area, e := steel.Area(row.size)
		if !steel.Size(row.size) || area != row.area || e != api.OK {
			t.Errorf("%d has the area %d, %d", row.size, area, e)
		}
		if d, e := steel.Least(row.area, 1); d != row.size || e != api.OK {
			t.Errorf("the least size for %d is %d, %d", row.area, d, e)
		}
	}
	if steel.Size(0) || steel.Size(7) {
		t.Error("0 or 7 is a size")
	}
}

// P11.1
func TestOfSizes(t *testing.T) {
	for _, row := range table {
		if area, e := steel.Area(row.size); area != row.area || e != api.OK {
			t.Errorf("%d has the area %d, %d", row.size, area, e)
		}
		if bend, e := steel.Bend(row.size); bend != row.bend || e != api.OK {
			t.Errorf("%d has the bend radius %d, %d", row.size, bend, e)
		}
		if half, e := steel.Round(row.size); half != row.half || e != api.OK {
			t.Errorf("%d has the half %d, %d", row.size, half, e)
		}
	}
	for _, d := range notSizes() {
		if area, e := steel.Area(d); area != 0 || e != api.ErrArg {
			t.Errorf("%d has the area %d, %d", d, area, e)
		}
		if bend, e := steel.Bend(d); bend != 0 || e != api.ErrArg {
			t.Errorf("%d has the bend radius %d, %d", d, bend, e)
		}
		if half, e := steel.Round(d); half != 0 || e != api.ErrArg {
			t.Errorf("%d has the half %d, %d", d, half, e)
		}
	}
}

// P11.2
func TestMass(t *testing.T) {
	for _, c := range []struct{ d, length, want int }{
		{6, 0, 0}, {40, 0, 0}, {10, 1000, 617},
		// The size 6 has 0.22194 for each 1, so that 2 have less than a half, and 3 more.
		{6, 1, 0}, {6, 2, 0}, {6, 3, 1}, {6, 6, 1}, {6, 7, 2},
		// The size 10 has 0.6165 for each 1, and 1000 of it just 616.5, which is rounded up.
		{10, 1, 1}, {10, 2, 1}, {10, 3, 2}, {10, 999, 616}, {10, 3000, 1850}, {10, 5000, 3083},
		// The size 20 has 2.466 for each 1, and 250 of it just 616.5.
		{20, 250, 617}, {20, 249, 614}, {20, 750, 1850},
		// The size 40 has 9.864 for each 1, and 125 of it just 1233.
		{40, 1, 10}, {40, 125, 1233},
	} {
		if mass, e := steel.Mass(c.d, c.length); mass != c.want || e != api.OK {
			t.Errorf("%d of the size %d have the mass %d, %d", c.length, c.d, mass, e)
		}
	}
	for _, row := range table {
		if mass, e := steel.Mass(row.size, 1000); mass != row.mass || e != api.OK {
			t.Errorf("1000 of the size %d have the mass %d, %d", row.size, mass, e)
		}
		if mass, e := steel.Mass(row.size, far); mass != row.longest || e != api.OK {
			t.Errorf("the greatest length of the size %d has the mass %d, %d", row.size, mass, e)
		}
	}
}

// P11.2
func TestMassErrors(t *testing.T) {
	notLengths := []int{-1, -1000, far + 1, 2 * far, 1 << 32, math.MinInt, math.MinInt + 1, math.MaxInt}
	for _, d := range sizes() {
		for _, length := range notLengths {
			if mass, e := steel.Mass(d, length); mass != 0 || e != api.ErrRange {
				t.Errorf("%d of the size %d have the mass %d, %d", length, d, mass, e)
			}
		}
	}
	for _, d := range notSizes() {
		for _, length := range append([]int{0, 1, 1000, far}, notLengths...) {
			if mass, e := steel.Mass(d, length); mass != 0 || e != api.ErrArg {
				t.Errorf("%d of the size %d have the mass %d, %d", length, d, mass, e)
			}
		}
	}
}

// P11.3
func TestLeast(t *testing.T) {
	for _, c := range []struct {
		area, count, want int
		e                 api.Errno
	}{
		{60000, 3, 16, api.OK}, {60000, 2, 20, api.OK}, {60000, 1, 32, api.OK},
		{0, 1, 6, api.OK}, {0, api.MaxCount, 6, api.OK}, {1, 1, 6, api.OK},
		{2827, 1, 6, api.OK}, {2828, 1, 8, api.OK}, {2 * 2827, 2, 6, api.OK}, {2*2827 + 1, 2, 8, api.OK},
		{125664, 1, 40, api.OK}, {125665, 1, 0, api.ErrNone}, {125665, 2, 32, api.OK},
		{2 * 125664, 2, 40, api.OK}, {2*125664 + 1, 2, 0, api.ErrNone},
		{125664 * api.MaxCount, api.MaxCount, 40, api.OK}, {125664*api.MaxCount + 1, api.MaxCount, 0, api.ErrNone},
		{80425 * api.MaxCount, api.MaxCount, 32, api.OK}, {80425*api.MaxCount + 1, api.MaxCount, 40, api.OK},
		{most, 1, 0, api.ErrNone}, {most, api.MaxCount, 0, api.ErrNone},
	} {
		if d, e := steel.Least(c.area, c.count); d != c.want || e != c.e {
			t.Errorf("the least size of %d for %d is %d, %d", c.count, c.area, d, e)
		}
	}
}

// P11.3
func TestLeastErrors(t *testing.T) {
	areas := []int{0, 1, 2827, 125664, 125665, most}
	notAreas := []int{-1, -2827, most + 1, 1 << 62, math.MinInt, math.MaxInt}
	counts := []int{1, 2, 999, api.MaxCount}
	notCounts := []int{0, -1, -api.MaxCount, api.MaxCount + 1, 1 << 32, math.MinInt, math.MaxInt}
	refused := func(area, count int) {
		t.Helper()
		if d, e := steel.Least(area, count); d != 0 || e != api.ErrRange {
			t.Errorf("the least size of %d for %d is %d, %d", count, area, d, e)
		}
	}
	for _, area := range notAreas {
		for _, count := range append(counts, notCounts...) {
			refused(area, count)
		}
	}
	for _, count := range notCounts {
		for _, area := range areas {
			refused(area, count)
		}
	}
}
