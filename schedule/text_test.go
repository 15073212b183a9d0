package schedule_test

import (
	"strings"
	"testing"

	"stirrup/api"
	"stirrup/schedule"
)

// P14.2
func TestText(t *testing.T) {
	for _, c := range []struct {
		l    []api.Bar
		text string
	}{
		{nil, ""},
		{[]api.Bar{}, ""},
		{[]api.Bar{bar("a", 10, 4, api.Straight, 1000)}, "a 10 4 00 1000\n"},
		{[]api.Bar{bar("a", 6, 1, api.Straight, 1)}, "a 6 1 00 1\n"},
		{[]api.Bar{bar("Z_z9", 40, 1000, api.Link, 100000, 20, 3)}, "Z_z9 40 1000 51 100000 20 3\n"},
		{some(), someText},
	} {
		if s, e := schedule.Text(c.l); s != c.text || e != api.OK {
			t.Errorf("%+v has the text %q, %d", c.l, s, e)
		}
		if l, at, e := schedule.Parse(c.text); !equal(l, c.l) || at != (api.Pos{}) || e != api.OK {
			t.Errorf("%q is %+v, %v, %d", c.text, l, at, e)
		}
	}
}

// P14.2: lines that do not have their form.
func TestLinesWithoutForm(t *testing.T) {
	for _, line := range []string{
		"\n", " \n", "a\n", "a \n", "a 10\n", "a 10 4\n", "a 10 4 00\n", "a 10 4 00 \n", "# a\n",
		// Names.
		" 10 4 00 100\n", "10 4 00 100\n", "1 10 4 00 100\n", "1a 10 4 00 100\n", "_a 10 4 00 100\n", "a-b 10 4 00 100\n", "é 10 4 00 100\n",
		"a_mark_of_21_letters_ 10 4 00 100\n", "\x00 10 4 00 100\n", "\xff 10 4 00 100\n", "a# 10 4 00 100\n", ":= 10 4 00 100\n",
		// Spaces.
		" a 10 4 00 100\n", "a  10 4 00 100\n", "a 10  4 00 100\n", "a 10 4  00 100\n", "a 10 4 00  100\n", "a 10 4 00 100 \n",
		"a 10 4 00 100  100\n", "a\t10 4 00 100\n", "a 10 4 00\t100\n", "a 10 4 00 100\t\n", "a 10 4 00 100\r\n", "a 10 4 00\u00a0100\n",
		"a 10 4 00 100\v\n", "a 10 4 00 100 # off\n", "a, 10, 4, 00, 100\n",
		// Numbers.
		"a b 4 00 100\n", "a 10 b 00 100\n", "a 10 4 00 b\n", "a 10 4 00 100 b\n", "a +10 4 00 100\n", "a -10 4 00 100\n", "a 10 +4 00 100\n",
		"a 10 -4 00 100\n", "a 10 4 00 +100\n", "a 10 4 00 -100\n", "a 10 4 00 100 -1\n", "a 10 4 00 -0\n", "a -0 4 00 100\n", "a 10 -0 00 100\n",
		"a 010 4 00 100\n", "a 10 04 00 100\n", "a 10 4 00 0100\n", "a 10 4 11 100 0100\n", "a 00 4 00 100\n", "a 10 00 00 100\n", "a 10 4 00 00\n",
		"a 10.0 4 00 100\n", "a 10 4.0 00 100\n", "a 10 4 00 100.0\n", "a 10 4 00 1e3\n", "a 10 4 00 0x10\n", "a 10 4 00 1_000\n", "a 10 4 00 1,000\n",
		"a 10 4 00 10000000000\n", "a 10000000000 4 00 100\n", "a 10 10000000000 00 100\n", "a 10 4 00 100 12345678901\n", "a 10 4 00 00000000001\n",
		"a 10 4 00 99999999999999999999\n", "a 10 4 00 18446744073709551716\n", "a 10 4 00 ١٠\n", "a 10 4 00 \x00\n", "a 10 4 00 \xff\n",
		// Codes.
		"a 10 4 0 100\n", "a 10 4 1 100\n", "a 10 4 000 100\n", "a 10 4 011 100 100\n", "a 10 4 111 100\n", "a 10 4 -1 100\n", "a 10 4 -0 100\n",
		"a 10 4 +0 100\n", "a 10 4 0- 100\n", "a 10 4 0+ 100\n", "a 10 4 0a 100\n", "a 10 4 a0 100\n", "a 10 4 ab 100\n", "a 10 4  0 100\n",
		"a 10 4 0\x00 100\n", "a 10 4 é 100\n", "a 10 4 1. 100\n", "a 10 4 .1 100\n", "a 10 4 00000000000 100\n",
		// Newlines.
		"a 10 4 00 100", "a", "1", " ", "a 10 4 00 100\r", "\r\n", "a 10 4 00 100\x00", "a 10 4 00",
		"a 10\n4 00 100\n", "a 10 4 00 100 \nb 10 4 00 100\n",
	} {
		for before, text := range []string{"", "x 10 4 00 100\n", "x 10 4 00 100\ny 11 0 99 0 0 0\n"} {
			l, at, e := schedule.Parse(text + line)
			if want := (api.Pos{Line: 1 + before, Column: 1}); len(l) != 0 || at != want || e != api.ErrForm {
				t.Errorf("%q is %+v, %v, %d", text+line, l, at, e)
			}
			// What comes after it does not matter.
			if strings.HasSuffix(line, "\n") {
				l, at, e = schedule.Parse(text + line + "y 10 4 00 100\n\n")
				if want := (api.Pos{Line: 1 + before, Column: 1}); len(l) != 0 || at != want || e != api.ErrForm {
					t.Errorf("%q and more is %+v, %v, %d", text+line, l, at, e)
				}
			}
		}
	}
}

// P14.2: texts whose lines have their form, but are no valid schedule.
func TestTextsNotValid(t *testing.T) {
	for _, text := range []string{
		"a 11 4 00 100\n", "a 0 4 00 100\n", "a 9999999999 4 00 100\n", "a 4294967306 4 00 100\n",
		"a 10 0 00 100\n", "a 10 1001 00 100\n", "a 10 9999999999 00 100\n", "a 10 4294967300 00 100\n",
		"a 10 4 01 100\n", "a 10 4 10 100\n", "a 10 4 12 100\n", "a 10 4 99 100\n", "a 10 4 89 100 100 100\n",
		"a 10 4 00 0\n", "a 10 4 00 262145\n", "a 10 4 00 9999999999\n", "a 10 4 00 4294967396\n", "a 10 4 11 262144 1\n", "a 10 4 11 100 0\n",
		"a 10 4 00 100 100\n", "a 10 4 11 100\n", "a 10 4 11 100 100 100\n", "a 10 4 41 100 100 100 100\n", "a 10 4 00 1 1 1 1 1 1 1 1 1 1 1 1\n",
		"a 10 4 00 100\na 10 4 00 100\n", "a 10 4 00 100\nb 10 4 00 100\na 12 5 11 300 400\n", someText + "h 8 200 51 250 350 100\n",
		someText + "x 10 4 00 0\n", "x 10 4 00 0\n" + someText, strings.Repeat("x 10 4 00 100\n", 1000),
	} {
		if l, at, e := schedule.Parse(text); len(l) != 0 || at != (api.Pos{}) || e != api.ErrArg {
			t.Errorf("%q is %+v, %v, %d", text, l, at, e)
		}
	}
}

// textOf returns a text for bars that need not be valid together.
func textOf(t *testing.T, l []api.Bar) string {
	t.Helper()
	whole := ""
	for i := range l {
		s, e := schedule.Text(l[i : i+1])
		if e != api.OK {
			t.Fatalf("%+v has no text, %d", l[i], e)
		}
		whole += s
	}
	return whole
}

// P14.2: a schedule has up to MaxBars lines, and a line without its form is told wherever it is.
func TestMostLines(t *testing.T) {
	for _, n := range []int{1, 59, 60} {
		if l, at, e := schedule.Parse(textOf(t, many(n))); !equal(l, many(n)) || at != (api.Pos{}) || e != api.OK {
			t.Errorf("of %d lines there are %+v, %v, %d", n, l, at, e)
		}
	}
	for _, n := range []int{61, 62, 1000} {
		text := textOf(t, many(n))
		if l, at, e := schedule.Parse(text); len(l) != 0 || at != (api.Pos{}) || e != api.ErrArg {
			t.Errorf("of %d lines there are %+v, %v, %d", n, l, at, e)
		}
		for _, wrong := range []string{"\n", "x 10 4 00 100"} {
			if l, at, e := schedule.Parse(text + wrong); len(l) != 0 || at != (api.Pos{Line: n + 1, Column: 1}) || e != api.ErrForm {
				t.Errorf("of %d lines, and a wrong one, there are %+v, %v, %d", n, l, at, e)
			}
		}
	}
}

// P14.2: texts of MaxText bytes, and of one more.
func TestLongTexts(t *testing.T) {
	line := "a 10 4 00" + strings.Repeat(" 1", (api.MaxText-10)/2)
	whole := strings.Repeat("a 10 4 00 1234\n", api.MaxText/15)
	for _, c := range []struct {
		text string
		at   api.Pos
		e    api.Errno
	}{
		{line + "\n", api.Pos{}, api.ErrArg},
		{line + "1\n", api.Pos{}, api.ErrFull},
		{line + "  ", api.Pos{}, api.ErrFull},
		{line + " ", api.Pos{Line: 1, Column: 1}, api.ErrForm},
		{strings.Repeat("\n", api.MaxText), api.Pos{Line: 1, Column: 1}, api.ErrForm},
		{strings.Repeat("\n", api.MaxText+1), api.Pos{}, api.ErrFull},
		{whole, api.Pos{}, api.ErrArg},
		{whole + "\n", api.Pos{Line: api.MaxText/15 + 1, Column: 1}, api.ErrForm},
		{whole + strings.Repeat("\n", 15), api.Pos{}, api.ErrFull},
		{strings.Repeat(someText, 2000), api.Pos{}, api.ErrFull},
		{strings.Repeat("\x00", 1<<22), api.Pos{}, api.ErrFull},
	} {
		if l, at, e := schedule.Parse(c.text); len(l) != 0 || at != c.at || e != c.e {
			t.Errorf("a text of %d bytes is %+v, %v, %d, not %v, %d", len(c.text), l, at, e, c.at, c.e)
		}
	}
}

// P14.2: the bars of a text share no memory with one another.
func TestParsedBarsShareNothing(t *testing.T) {
	for range 2 {
		l, _, e := schedule.Parse(someText)
		if !equal(l, some()) || e != api.OK {
			t.Fatalf("there are %+v, %d", l, e)
		}
		for i := range l {
			_ = append(l[i].Dims, -7)
			for k := range l[i].Dims {
				l[i].Dims[k] = -5
			}
			if !equal(l[i+1:], some()[i+1:]) {
				t.Errorf("after bar %d there are %+v", i, l[i+1:])
			}
		}
	}
}
