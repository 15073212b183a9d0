package bend_test

import (
	"math/rand"
	"slices"
	"testing"

	"stirrup/api"
	"stirrup/bend"
)

func sum(l []int) int {
	whole := 0
	for _, n := range l {
		whole += n
	}
	return whole
}

// randomDims returns dimensions whose sum is at most a number that is not less than how many they are.
func randomDims(r *rand.Rand, n, most int) []int {
	dims := make([]int, n)
	for i := range dims {
		left := most - sum(dims) - (n - 1 - i)
		dims[i] = 1 + r.Intn(min(left, 1+r.Intn(1<<r.Intn(19))))
	}
	r.Shuffle(n, func(i, j int) { dims[i], dims[j] = dims[j], dims[i] })
	return dims
}

// each calls a function for random bars of all codes and sizes, with the names of the dimensions of their legs, and the
// index of their size in the table.
func each(seed int64, most int, do func(r *rand.Rand, b api.Bar, names string, size int)) {
	r := rand.New(rand.NewSource(seed))
	for range 300 {
		for _, row := range catalogue {
			for size := range table {
				b := sized(table[size].size, bar(row.code, randomDims(r, row.dims, most)...))
				do(r, counted(1+r.Intn(api.MaxCount), b), row.legs, size)
			}
		}
	}
}

// developedOf returns a developed length that has to be there.
func developedOf(t *testing.T, b api.Bar) api.Span {
	t.Helper()
	l, e := bend.Developed(b)
	if e != api.OK {
		t.Fatalf("%+v has no developed length, %d", b, e)
	}
	return l
}

// P13.1: arcs are the greatest and the least numbers around the fractions, and pi lies between these; an arc and the
// allowance are together the corner.
func TestArcsEnclose(t *testing.T) {
	for _, row := range table {
		arc, e := bend.Arc(row.size)
		whole := 500 * row.radius
		if 106*arc.Lo > 333*whole || 106*(arc.Lo+1) <= 333*whole || 113*arc.Hi < 355*whole || 113*(arc.Hi-1) >= 355*whole || e != api.OK {
			t.Errorf("%d has the arc %v, %d", row.size, arc, e)
		}
		// Pi is between 3.141592653 and 3.141592654.
		if arc.Lo*1000000000 > whole*3141592653 || arc.Hi*1000000000 < whole*3141592654 {
			t.Errorf("%d has the arc %v, without that of the circle", row.size, arc)
		}
		allowance, e := bend.Allowance(row.size)
		if arc.Lo+allowance.Hi != 2000*row.radius || arc.Hi+allowance.Lo != 2000*row.radius || e != api.OK {
			t.Errorf("%d has the arc %v, and the allowance %v, %d", row.size, arc, allowance, e)
		}
	}
}

// P13.2: bends, lengths, and masses are those of the definitions.
func TestDefinitions(t *testing.T) {
	each(131, together, func(_ *rand.Rand, b api.Bar, names string, size int) {
		n := len(names) - 1
		if bends, e := bend.Bends(b); bends != n || e != api.OK {
			t.Errorf("%+v has %d bends, %d", b, bends, e)
		}
		whole := 1000 * sum(legsOf(names, b.Dims))
		allowance := table[size].allowance
		want := api.Span{Lo: whole - n*allowance.Hi, Hi: whole - n*allowance.Lo}
		cut := 5
		if want.Hi > 0 {
			for cut = want.Hi / 5000 * 5; 1000*cut < want.Hi; cut += 5 {
			}
		}
		checkLengths(t, b, want, cut, b.Count*((6165*b.Size*b.Size*cut+500000)/1000000))
	})
}

// P13.2: the cutting lengths of all short bars with a bend, around all multiples of 5, and around 0.
func TestShortBars(t *testing.T) {
	for _, row := range table {
		for length := 2; length <= 300; length++ {
			b := sized(row.size, bar(api.Ell, 1, length-1))
			most := 1000*length - row.allowance.Lo
			cut, e := bend.Cut(b)
			if cut < 5 || cut%5 != 0 || 1000*cut < most || cut > 5 && 1000*(cut-5) >= most || e != api.OK {
				t.Errorf("%+v has the cutting length %d, %d", b, cut, e)
			}
		}
	}
}

// P13.3: of legs around the least ones without a finding there are all.
func TestAllFindings(t *testing.T) {
	for size, row := range table {
		for _, shape := range catalogue {
			choices := []int{row.between - 1, row.between, row.end - 1, row.end}
			at := make([]int, shape.dims)
			for i := 0; i < shape.dims; {
				dims := make([]int, shape.dims)
				for k := range dims {
					dims[k] = choices[at[k]]
				}
				checkFindings(t, sized(row.size, bar(shape.code, dims...)), shape.legs, size)
				for i = 0; i < shape.dims && at[i] == len(choices)-1; i++ {
					at[i] = 0
				}
				if i < shape.dims {
					at[i]++
				}
			}
		}
	}
}

// P13.3
func TestSomeFindings(t *testing.T) {
	each(132, 1000, func(_ *rand.Rand, b api.Bar, names string, size int) { checkFindings(t, b, names, size) })
}

// checkFindings compares the findings of a bar with their definition.
func checkFindings(t *testing.T, b api.Bar, names string, size int) {
	t.Helper()
	var want []int
	legs := legsOf(names, b.Dims)
	for i, leg := range legs {
		if len(legs) == 1 {
			break
		}
		if i == 0 || i == len(legs)-1 {
			if leg < table[size].end {
				want = append(want, 1)
			}
		} else if leg < table[size].between {
			want = append(want, 2)
		}
	}
	if kinds := kindsOf(t, b); !slices.Equal(kinds, want) {
		t.Errorf("%+v has the findings %v, not %v", b, kinds, want)
	}
}

// P13.4: a straight bar has just its length.
func TestStraightBars(t *testing.T) {
	for _, row := range table {
		for length := 1; length <= together; length += 1 + length/10 {
			b := sized(row.size, bar(api.Straight, length))
			if l := developedOf(t, b); l != (api.Span{Lo: 1000 * length, Hi: 1000 * length}) {
				t.Errorf("%+v has the developed length %v", b, l)
			}
			if kinds := kindsOf(t, b); len(kinds) != 0 {
				t.Errorf("%+v has the findings %v", b, kinds)
			}
		}
	}
}

// P13.4: the developed length is as wide a span as the bends have arcs, and, where there are some, less than the legs.
func TestDevelopedIsAsWideAsArcs(t *testing.T) {
	each(133, together, func(_ *rand.Rand, b api.Bar, names string, _ int) {
		l := developedOf(t, b)
		bends, e := bend.Bends(b)
		arc, f := bend.Arc(b.Size)
		if l.Hi-l.Lo != bends*(arc.Hi-arc.Lo) || e != api.OK || f != api.OK {
			t.Errorf("%+v has the developed length %v, with %d arcs of %v", b, l, bends, arc)
		}
		if whole := 1000 * sum(legsOf(names, b.Dims)); l.Hi > whole || bends > 0 && l.Hi == whole {
			t.Errorf("%+v has the developed length %v, with legs of %d", b, l, whole)
		}
	})
}

// P13.4: the cutting length is not less than the developed length, and, if this is positive, not 5 mm more.
func TestCuttingLengths(t *testing.T) {
	each(134, together, func(_ *rand.Rand, b api.Bar, _ string, _ int) {
		l := developedOf(t, b)
		cut, e := bend.Cut(b)
		if 1000*cut < l.Hi || l.Hi > 0 && 1000*cut-l.Hi >= 5000 || e != api.OK {
			t.Errorf("%+v has the developed length %v, and the cutting length %d, %d", b, l, cut, e)
		}
	})
}

// P13.4: a leg that becomes longer makes the bar longer by as much, and longer legs have no more findings.
func TestLongerLegs(t *testing.T) {
	each(135, 1000, func(r *rand.Rand, b api.Bar, names string, _ int) {
		longer := b
		longer.Dims = slices.Clone(b.Dims)
		longer.Dims[r.Intn(len(b.Dims))] += 1 + r.Intn(200)
		more := 1000 * (sum(legsOf(names, longer.Dims)) - sum(legsOf(names, b.Dims)))
		before := developedOf(t, b)
		if after := developedOf(t, longer); after != (api.Span{Lo: before.Lo + more, Hi: before.Hi + more}) {
			t.Errorf("%+v has the developed length %v, and %+v %v", b, before, longer, after)
		}
		rest := kindsOf(t, b)
		for _, kind := range kindsOf(t, longer) {
			at := slices.Index(rest, kind)
			if at < 0 {
				t.Errorf("%+v has more findings than %+v", longer, b)
				break
			}
			rest = slices.Delete(rest, at, at+1)
		}
	})
}

// P13.2: marks do not matter for lengths and masses, and counts for lengths.
func TestMarksDoNotMatter(t *testing.T) {
	each(136, together, func(r *rand.Rand, b api.Bar, _ string, _ int) {
		other := counted(1, b)
		other.Mark = "other"
		cut, _ := bend.Cut(b)
		otherCut, e := bend.Cut(other)
		if is, of := developedOf(t, other), developedOf(t, b); is != of || otherCut != cut || e != api.OK {
			t.Errorf("%+v has %v and %d, and %+v %v and %d", b, of, cut, other, is, otherCut)
		}
		mass, _ := bend.Mass(b)
		if one, e := bend.Mass(other); mass != b.Count*one || e != api.OK {
			t.Errorf("%+v has the mass %d, and one bar %d", b, mass, one)
		}
	})
}
