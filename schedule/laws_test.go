package schedule_test

import (
	"maps"
	"math/rand"
	"regexp"
	"slices"
	"strconv"
	"strings"
	"testing"

	"stirrup/api"
	"stirrup/bend"
	"stirrup/schedule"
)

var (
	sizes = []int{6, 8, 10, 12, 16, 20, 25, 32, 40}
	// codes have their numbers of dimensions.
	codes = map[int]int{0: 1, 11: 2, 21: 3, 26: 3, 31: 3, 41: 5, 51: 3, 98: 3}
	// lineForm is the form of a line, as the chapter says it.
	lineForm = regexp.MustCompile(`\A[a-zA-Z][a-zA-Z0-9_]{0,19} (0|[1-9][0-9]{0,9}) (0|[1-9][0-9]{0,9}) [0-9][0-9]( (0|[1-9][0-9]{0,9}))+\n\z`)
)

// pick returns one of some values.
func pick[T any](r *rand.Rand, l ...T) T { return l[r.Intn(len(l))] }

// randomBar returns a bar with a mark; some bars of its size are cut as long.
func randomBar(r *rand.Rand, mark string) api.Bar {
	code := pick(r, api.Straight, pick(r, slices.Sorted(maps.Keys(codes))...))
	var dims []int
	for range codes[code] {
		dims = append(dims, pick(r, 1+r.Intn(20), 1+r.Intn(50000), 295+r.Intn(11)))
	}
	return bar(mark, pick(r, 10, 12, pick(r, sizes...)), pick(r, 1+r.Intn(9), 1+r.Intn(api.MaxCount)), code, dims...)
}

// randomName returns a name.
func randomName(r *rand.Rand) string {
	const letters = "abcdefghijklmnopqrstuvwxyzABCDEFGHIJKLMNOPQRSTUVWXYZ"
	name := string(letters[r.Intn(len(letters))])
	for range r.Intn(pick(r, 2, api.MaxName)) {
		name += string((letters + "0123456789_")[r.Intn(len(letters)+11)])
	}
	return name
}

// random returns a schedule of up to most bars.
func random(r *rand.Rand, most int) []api.Bar {
	var l []api.Bar
	for range pick(r, r.Intn(most+1), most) {
		name := randomName(r)
		if !slices.ContainsFunc(l, func(b api.Bar) bool { return b.Mark == name }) {
			l = append(l, randomBar(r, name))
		}
	}
	return l
}

// each calls a function for random schedules.
func each(seed int64, do func(r *rand.Rand, l []api.Bar)) {
	r := rand.New(rand.NewSource(seed))
	for range 2000 {
		do(r, random(r, pick(r, 3, 12, api.MaxBars)))
	}
}

// changed returns a bar that need not be valid, and may have the mark of another one.
func changed(r *rand.Rand, b api.Bar) api.Bar {
	b.Dims = slices.Clone(b.Dims)
	n := pick(r, -1, 0, 1, 9, 10, 1000, 1001, api.MaxLength/4, api.MaxLength/4+1)
	switch r.Intn(6) {
	case 0:
		b.Mark = pick(r, "", "a", "b", "9", "a b", strings.Repeat("a", 20), strings.Repeat("a", 21))
	case 1:
		b.Size = n
	case 2:
		b.Count = n
	case 3:
		b.Code = pick(r, 0, 11, 98, n)
	case 4:
		b.Dims[r.Intn(len(b.Dims))] = n
	case 5:
		b.Dims = append(b.Dims, 100)
	}
	return b
}

// validBar reports whether a bar is valid, by the words of chapter 12.
func validBar(b api.Bar) bool {
	n, is := codes[b.Code]
	together := 0
	for _, length := range b.Dims {
		is = is && length >= 1
		together += length
	}
	name := regexp.MustCompile(`\A[a-zA-Z][a-zA-Z0-9_]{0,19}\z`)
	return is && len(b.Dims) == n && together <= api.MaxLength/4 && slices.Contains(sizes, b.Size) &&
		b.Count >= 1 && b.Count <= api.MaxCount && name.MatchString(b.Mark)
}

// P14.1: schedules are valid by their definition, whichever bar is changed.
func TestSomeAreValid(t *testing.T) {
	valid, not := 0, 0
	each(141, func(r *rand.Rand, l []api.Bar) {
		for i := 0; len(l) > 0 && i < r.Intn(3); i++ {
			at := r.Intn(len(l))
			l[at] = changed(r, l[at])
		}
		want := len(l) <= api.MaxBars
		marks := map[string]bool{}
		for _, b := range l {
			want = want && validBar(b) && !marks[b.Mark]
			marks[b.Mark] = true
		}
		if want {
			valid++
		} else {
			not++
		}
		if schedule.Valid(l) != want {
			t.Errorf("%+v is valid: %v", l, !want)
		}
	})
	if valid < 300 || not < 300 {
		t.Errorf("only %d are valid, and %d are not", valid, not)
	}
}

// P14.1: bars are found by their definition, and the total is the sum of the counts.
func TestFindAndTotal(t *testing.T) {
	each(142, func(r *rand.Rand, l []api.Bar) {
		total := 0
		for i, b := range l {
			if at, e := schedule.Find(l, b.Mark); at != i || e != api.OK {
				t.Errorf("%q is at %d, %d, not %d", b.Mark, at, e, i)
			}
			total += b.Count
		}
		if n, e := schedule.Total(l); n != total || e != api.OK {
			t.Errorf("the total is %d, %d, not %d", n, e, total)
		}
		name := randomName(r)
		at := slices.IndexFunc(l, func(b api.Bar) bool { return b.Mark == name })
		if i, e := schedule.Find(l, name); at >= 0 && (i != at || e != api.OK) || at < 0 && (i != 0 || e != api.ErrName) {
			t.Errorf("%q is at %d, %d, not %d", name, i, e, at)
		}
	})
}

// parsed compares what is read from a text with the definition.
func parsed(t *testing.T, text string) api.Errno {
	t.Helper()
	var want []api.Bar
	at, error := api.Pos{}, api.OK
	lines := strings.SplitAfter(text, "\n")
	for i, line := range lines {
		if i == len(lines)-1 && line == "" {
			break
		}
		if !lineForm.MatchString(line) {
			want, at, error = nil, api.Pos{Line: i + 1, Column: 1}, api.ErrForm
			break
		}
		want = append(want, read(t, line))
	}
	if error == api.OK && !schedule.Valid(want) {
		want, error = nil, api.ErrArg
	}
	if l, is, e := schedule.Parse(text); !equal(l, want) || is != at || e != error {
		t.Errorf("%q is %+v, %v, %d, not %+v, %v, %d", text, l, is, e, want, at, error)
	}
	return error
}

// read returns the bar of a line that has its form.
func read(t *testing.T, line string) api.Bar {
	t.Helper()
	words := strings.Fields(line)
	var numbers []int
	for _, word := range words[1:] {
		n, e := strconv.Atoi(word)
		if e != nil {
			t.Fatal(e)
		}
		numbers = append(numbers, n)
	}
	return bar(words[0], numbers[0], numbers[1], numbers[2], numbers[3:]...)
}

// P14.2: lines with all short words instead of one of theirs.
func TestAllWords(t *testing.T) {
	const bytes = "0917a_- +.\n\t"
	var words []string
	for longest := []string{""}; len(longest[0]) < 4; {
		var next []string
		for _, word := range longest {
			for i := range len(bytes) {
				next = append(next, word+bytes[i:i+1])
			}
		}
		words, longest = append(words, longest...), next
	}
	counts := map[api.Errno]int{}
	for at := range 6 {
		for _, word := range words {
			line := []string{"a", "10", "7", "11", "90", "17"}
			line[at] = word
			counts[parsed(t, strings.Join(line, " ")+"\n")]++
		}
	}
	if counts[api.OK] < 100 || counts[api.ErrArg] < 100 || counts[api.ErrForm] < 1000 {
		t.Errorf("only so many were tried: %v", counts)
	}
}

// P14.2: numbers of all sizes, with 1 to 12 digits.
func TestAllNumbersOfDigits(t *testing.T) {
	for at := 1; at < 6; at++ {
		for digits := range 13 {
			for _, digit := range []string{"0", "1", "9"} {
				line := []string{"a", "10", "7", "11", "90", "17"}
				line[at] = strings.Repeat(digit, digits)
				parsed(t, strings.Join(line, " ")+"\n")
				line[at] = "1" + line[at]
				parsed(t, strings.Join(line, " ")+"\n")
			}
		}
	}
}

// P14.2: texts into which bytes are put, or from which bytes are taken.
func TestChangedTexts(t *testing.T) {
	counts := map[api.Errno]int{}
	each(143, func(r *rand.Rand, l []api.Bar) {
		text, e := schedule.Text(l)
		if e != api.OK {
			t.Fatal(e)
		}
		for range 3 {
			bytes := []byte(text)
			for range 1 + r.Intn(3) {
				at := r.Intn(len(bytes) + 1)
				put := []byte{pick(r, '0', '1', '9', ' ', '\n', 'a', '_', '-', byte(r.Intn(256)))}
				take := min(len(bytes)-at, r.Intn(2))
				bytes = slices.Replace(bytes, at, at+take, put[:r.Intn(2)]...)
			}
			counts[parsed(t, string(bytes))]++
		}
	})
	if counts[api.OK] < 100 || counts[api.ErrArg] < 100 || counts[api.ErrForm] < 1000 {
		t.Errorf("only so many were tried: %v", counts)
	}
}

// P14.2, P14.5: the text has a line for each bar, which is written by its definition, and the schedule is read from it.
func TestTextsAreRead(t *testing.T) {
	each(144, func(_ *rand.Rand, l []api.Bar) {
		want := ""
		for _, b := range l {
			code := strconv.Itoa(b.Code)
			if b.Code < 10 {
				code = "0" + code
			}
			want += b.Mark + " " + strconv.Itoa(b.Size) + " " + strconv.Itoa(b.Count) + " " + code
			for _, length := range b.Dims {
				want += " " + strconv.Itoa(length)
			}
			want += "\n"
		}
		if s, e := schedule.Text(l); s != want || e != api.OK {
			t.Errorf("%+v has the text %q, %d, not %q", l, s, e, want)
		}
		if back, at, e := schedule.Parse(want); !equal(back, l) || at != (api.Pos{}) || e != api.OK {
			t.Errorf("%q is %+v, %v, %d", want, back, at, e)
		}
	})
}

// piecesOf returns the pieces of a schedule that is valid.
func piecesOf(t *testing.T, l []api.Bar, size int) []api.Piece {
	t.Helper()
	order, e := schedule.Pieces(l, size)
	if e != api.OK {
		t.Fatalf("%+v has no pieces of the size %d, %d", l, size, e)
	}
	return order
}

// P14.3: pieces are those of the definition, each length once, and all of them descending.
func TestPiecesAreThoseOfBars(t *testing.T) {
	shared := 0
	each(145, func(_ *rand.Rand, l []api.Bar) {
		for _, size := range sizes {
			bars := 0
			order := piecesOf(t, l, size)
			counts := make([]int, len(order))
			for _, b := range l {
				cut, e := bend.Cut(b)
				if b.Size != size || e != api.OK {
					continue
				}
				bars++
				for i, piece := range order {
					if piece.Length == cut {
						counts[i] += b.Count
					}
				}
			}
			for i, piece := range order {
				if counts[i] != piece.Count || piece.Count < 1 || i > 0 && order[i-1].Length <= piece.Length {
					t.Errorf("%+v has the pieces %v of the size %d", l, order, size)
				}
			}
			if bars > len(order) {
				shared++
			}
		}
	})
	if shared < 1000 {
		t.Errorf("only %d orders have bars of one length", shared)
	}
}

// P14.5: the pieces of all sizes together are as many as the total.
func TestPiecesAreTheTotal(t *testing.T) {
	each(146, func(_ *rand.Rand, l []api.Bar) {
		total, e := schedule.Total(l)
		for _, size := range sizes {
			for _, piece := range piecesOf(t, l, size) {
				total -= piece.Count
			}
		}
		if total != 0 || e != api.OK {
			t.Errorf("%+v has %d more bars than pieces, %d", l, total, e)
		}
	})
}

// P14.5: the order of the bars does not matter for pieces.
func TestOrderDoesNotMatter(t *testing.T) {
	each(147, func(r *rand.Rand, l []api.Bar) {
		other := copied(l)
		r.Shuffle(len(other), func(i, j int) { other[i], other[j] = other[j], other[i] })
		for _, size := range sizes {
			if is, of := piecesOf(t, other, size), piecesOf(t, l, size); !slices.Equal(is, of) {
				t.Errorf("%+v has the pieces %v of the size %d, and %+v %v", l, of, size, other, is)
			}
		}
	})
}

// other returns a schedule that may have marks of l, mostly with the same shape.
func other(r *rand.Rand, l []api.Bar) []api.Bar {
	list := random(r, pick(r, 3, 12, api.MaxBars))
	differ := r.Intn(4) == 0
	for i, b := range list {
		if len(l) == 0 || r.Intn(2) == 0 {
			continue
		}
		from := l[r.Intn(len(l))]
		if slices.ContainsFunc(list, func(b api.Bar) bool { return b.Mark == from.Mark }) {
			continue
		}
		if differ && r.Intn(4) == 0 {
			list[i].Mark = from.Mark
			continue
		}
		list[i] = from
		list[i].Count = min(b.Count, pick(r, api.MaxCount-from.Count+r.Intn(2), 1+r.Intn(9)))
		list[i].Count = max(list[i].Count, 1)
	}
	return copied(list)
}

// mergedOf returns what two schedules are merged, by the definition.
func mergedOf(a, b []api.Bar) ([]api.Bar, api.Errno) {
	var l []api.Bar
	differs, great := false, false
	for _, x := range copied(a) {
		for _, y := range b {
			if x.Mark == y.Mark {
				differs = differs || x.Size != y.Size || x.Code != y.Code || !slices.Equal(x.Dims, y.Dims)
				x.Count += y.Count
			}
		}
		great = great || x.Count > 1000
		l = append(l, x)
	}
	for _, y := range copied(b) {
		if !slices.ContainsFunc(a, func(x api.Bar) bool { return x.Mark == y.Mark }) {
			l = append(l, y)
		}
	}
	for _, wrong := range []struct {
		is bool
		e  api.Errno
	}{{differs, api.ErrShape}, {great, api.ErrBig}, {len(l) > 60, api.ErrFull}} {
		if wrong.is {
			return nil, wrong.e
		}
	}
	return l, api.OK
}

// eachPair calls a function for random pairs of schedules, and what they are merged.
func eachPair(t *testing.T, seed int64, do func(a, b, merged []api.Bar, e api.Errno)) {
	t.Helper()
	counts := map[api.Errno]int{}
	each(seed, func(r *rand.Rand, a []api.Bar) {
		b := other(r, a)
		merged, e := schedule.Merge(a, b)
		counts[e]++
		do(a, b, merged, e)
	})
	for _, e := range []api.Errno{api.OK, api.ErrShape, api.ErrBig, api.ErrFull} {
		if counts[e] < 30 {
			t.Errorf("only %d pairs have the error %d", counts[e], e)
		}
	}
}

// P14.4: schedules are merged by the definition, neither of them is changed, and schedules merged are valid.
func TestMergedByDefinition(t *testing.T) {
	eachPair(t, 148, func(a, b, merged []api.Bar, e api.Errno) {
		if want, f := mergedOf(a, b); !equal(merged, want) || e != f || e == api.OK && !schedule.Valid(merged) {
			t.Errorf("%+v and %+v merged are %+v, %d, not %+v, %d", a, b, merged, e, want, f)
		}
		beforeA, beforeB := copied(a), copied(b)
		schedule.Merge(a, b)
		if !equal(a, beforeA) || !equal(b, beforeB) {
			t.Errorf("%+v and %+v were changed to %+v and %+v", beforeA, beforeB, a, b)
		}
	})
}

// P14.5: merging adds up totals, and pieces.
func TestMergingAddsUp(t *testing.T) {
	eachPair(t, 149, func(a, b, merged []api.Bar, e api.Errno) {
		if e != api.OK {
			return
		}
		n, _ := schedule.Total(a)
		k, _ := schedule.Total(b)
		if total, e := schedule.Total(merged); total != n+k || e != api.OK {
			t.Errorf("totals of %d and %d merged are %d, %d", n, k, total, e)
		}
		for _, size := range sizes {
			counts := map[int]int{}
			for _, piece := range slices.Concat(piecesOf(t, a, size), piecesOf(t, b, size)) {
				counts[piece.Length] += piece.Count
			}
			order := piecesOf(t, merged, size)
			for _, piece := range order {
				if counts[piece.Length] != piece.Count {
					t.Errorf("%+v and %+v merged have the pieces %v of the size %d", a, b, order, size)
				}
			}
			if len(order) != len(counts) {
				t.Errorf("%+v and %+v merged have %d lengths of the size %d, not %d", a, b, len(order), size, len(counts))
			}
		}
	})
}

// P14.5: a schedule that is merged with nothing is as before.
func TestMergedWithNothing(t *testing.T) {
	each(150, func(_ *rand.Rand, l []api.Bar) {
		for _, nothing := range [][]api.Bar{nil, {}} {
			before, e := schedule.Merge(l, nothing)
			after, f := schedule.Merge(nothing, l)
			if !equal(before, l) || !equal(after, l) || e != api.OK || f != api.OK {
				t.Errorf("%+v merged with nothing is %+v, %d, or %+v, %d", l, before, e, after, f)
			}
		}
	})
}
