package steel_test

import (
	"math/rand"
	"testing"

	"stirrup/api"
	"stirrup/steel"
)

// massOf returns a mass that has to be there.
func massOf(t *testing.T, d, length int) int {
	mass, e := steel.Mass(d, length)
	if e != api.OK {
		t.Fatalf("%d of the size %d have no mass, %d", length, d, e)
	}
	return mass
}

// P11.1: areas are the nearest whole numbers to 78.54 times the square of a size.
func TestAreasAreRounded(t *testing.T) {
	for _, d := range sizes() {
		area, e := steel.Area(d)
		if rest := 7854*d*d - 100*area; rest < -50 || rest >= 50 || e != api.OK {
			t.Errorf("%d has the area %d, %d", d, area, e)
		}
	}
}

// P11.2: all masses are the nearest whole numbers, the greater one of two.
func TestAllMasses(t *testing.T) {
	for _, d := range sizes() {
		exact := 0
		for length := range far + 1 {
			mass, e := steel.Mass(d, length)
			if rest := exact - 1000000*mass; rest < -500000 || rest >= 500000 || e != api.OK {
				t.Fatalf("%d of the size %d have the mass %d, %d", length, d, mass, e)
			}
			exact += 6165 * d * d
		}
	}
}

// leastOf returns the least size as it is defined, looked for from the greatest one down; 0 if there is none.
func leastOf(area, count int) int {
	least := 0
	for i := len(table) - 1; i >= 0 && count*table[i].area >= area; i-- {
		least = table[i].size
	}
	return least
}

// checkLeast compares a least size with its definition.
func checkLeast(t *testing.T, area, count int) {
	t.Helper()
	want, wantError := leastOf(area, count), api.OK
	if want == 0 {
		wantError = api.ErrNone
	}
	if d, e := steel.Least(area, count); d != want || e != wantError {
		t.Errorf("the least size of %d for %d is %d, %d", count, area, d, e)
	}
}

// P11.3: the least size changes nowhere but where so many bars of a size have just the area.
func TestAllCounts(t *testing.T) {
	for count := 1; count <= api.MaxCount; count++ {
		checkLeast(t, 0, count)
		checkLeast(t, most, count)
		for _, row := range table {
			for off := -1; off <= 1; off++ {
				checkLeast(t, count*row.area+off, count)
			}
		}
	}
}

// P11.3
func TestSomeAreas(t *testing.T) {
	r := rand.New(rand.NewSource(111))
	for range 100000 {
		checkLeast(t, r.Intn(1<<(1+r.Intn(40))), 1+r.Intn(1<<r.Intn(10)))
	}
}

// P11.4: greater sizes have greater areas and bend radii, and no lesser masses; from 1000 on greater ones.
func TestGreaterSizes(t *testing.T) {
	for i, d := range sizes()[1:] {
		before := sizes()[i]
		lesserArea, _ := steel.Area(before)
		area, _ := steel.Area(d)
		lesserBend, _ := steel.Bend(before)
		bend, _ := steel.Bend(d)
		if area <= lesserArea || bend <= lesserBend {
			t.Errorf("%d has the area %d and the bend radius %d, and %d has %d and %d", d, area, bend, before, lesserArea, lesserBend)
		}
		for length := range far + 1 {
			lesser, mass := massOf(t, before, length), massOf(t, d, length)
			if mass < lesser || length >= 1000 && mass == lesser {
				t.Fatalf("%d of the sizes %d and %d have the masses %d and %d", length, before, d, lesser, mass)
			}
		}
	}
}

// P11.4: the mass of two lengths together differs from the sum of both by at most 1.
func TestMassesOfParts(t *testing.T) {
	check := func(d, a, b int) {
		t.Helper()
		first, second, both := massOf(t, d, a), massOf(t, d, b), massOf(t, d, a+b)
		if off := both - first - second; off < -1 || off > 1 {
			t.Errorf("%d and %d of the size %d have the masses %d and %d, and together %d", a, b, d, first, second, both)
		}
	}
	r := rand.New(rand.NewSource(112))
	for _, d := range sizes() {
		for a := range 200 {
			for b := range 200 {
				check(d, a, b)
			}
		}
		for range 20000 {
			whole := r.Intn(1 << (1 + r.Intn(20)))
			a := r.Intn(whole + 1)
			check(d, a, whole-a)
			check(d, a, far-a)
		}
	}
}

// P11.4: bars of the least size have the area, and those of the next lesser size have not.
func TestLeastSuffices(t *testing.T) {
	r := rand.New(rand.NewSource(113))
	l := steel.Sizes()
	for range 100000 {
		area, count := r.Intn(1<<(1+r.Intn(26))), 1+r.Intn(api.MaxCount)
		least, e := steel.Least(area, count)
		for _, d := range l {
			each, _ := steel.Area(d)
			if suffices := count*each >= area; suffices != (e == api.OK && d >= least) {
				t.Errorf("the least size of %d for %d is %d, %d, but %d has the area %d", count, area, least, e, d, each)
			}
		}
	}
}

// P11.4: more bars, or less area, never need a greater size.
func TestMoreBarsAndLessArea(t *testing.T) {
	r := rand.New(rand.NewSource(114))
	for range 100000 {
		area, count := r.Intn(1<<(1+r.Intn(27))), 1+r.Intn(api.MaxCount)
		d, e := steel.Least(area, count)
		if e != api.OK {
			continue
		}
		more, less := count+r.Intn(api.MaxCount-count+1), r.Intn(area+1)
		if with, e := steel.Least(area, more); with > d || e != api.OK {
			t.Errorf("for %d, %d bars need the size %d, and %d the size %d, %d", area, count, d, more, with, e)
		}
		if with, e := steel.Least(less, count); with > d || e != api.OK {
			t.Errorf("%d bars need for %d the size %d, and for %d the size %d, %d", count, area, d, less, with, e)
		}
	}
}

// P11.4: twice the half is the size, or 1 more.
func TestHalves(t *testing.T) {
	for _, d := range sizes() {
		if half, e := steel.Round(d); half+half != d && half+half != d+1 || e != api.OK {
			t.Errorf("%d has the half %d, %d", d, half, e)
		}
	}
}
