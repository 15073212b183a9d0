package ratio_test

import (
	"math/big"
	"regexp"
	"strconv"
	"strings"
	"testing"

	"stirrup/api"
	"stirrup/ratio"
)

// textForm is what texts of fractions look like; the numbers are judged apart.
var textForm = regexp.MustCompile(`^(0|-?[1-9][0-9]*)(/([1-9][0-9]*))?$`)

// fractionOf returns the fraction with a text, or 0/0 if there is none.
func fractionOf(s string) api.Frac {
	parts := textForm.FindStringSubmatch(s)
	if parts == nil || parts[3] == "1" {
		return api.Frac{}
	}
	x, _ := new(big.Rat).SetString(s)
	if parts[3] != "" && x.Denom().String() != parts[3] {
		return api.Frac{}
	}
	return plain(x)
}

func checkParse(t *testing.T, s string) {
	want, wantE := fractionOf(s), api.OK
	if want.Den == 0 {
		wantE = api.ErrForm
	}
	if a, e := ratio.Parse(s); a != want || e != wantE {
		t.Errorf("Parse(%q) = %v, %d; want %v, %d", s, a, e, want, wantE)
	}
}

// P2.5
func TestText(t *testing.T) {
	for _, c := range []struct {
		a    api.Frac
		want string
	}{
		{f(0, 1), "0"}, {f(5, 1), "5"}, {f(-5, 1), "-5"}, {f(-3, 2), "-3/2"}, {f(1, 10), "1/10"}, {f(100, 7), "100/7"},
		{f(greatest, 1), "1152921504606846976"}, {f(-greatest, greatest-1), "-1152921504606846976/1152921504606846975"},
		{f(-1, greatest), "-1/1152921504606846976"},
	} {
		if s, e := ratio.Text(c.a); s != c.want || e != api.OK {
			t.Errorf("Text(%v) = %q, %d; want %q", c.a, s, e, c.want)
		}
	}
	for _, a := range someFractions(1000) {
		if s, e := ratio.Text(a); s != rat(a).RatString() || e != api.OK {
			t.Errorf("Text(%v) = %q, %d", a, s, e)
		}
	}
	for _, a := range notFractions {
		if s, e := ratio.Text(a); s != "" || e != api.ErrArg {
			t.Errorf("Text(%v) = %q, %d", a, s, e)
		}
	}
}

// P2.5: all short strings of some bytes, and single bytes.
func TestParseShortStrings(t *testing.T) {
	l := []string{""}
	for range 5 {
		var longer []string
		for _, s := range l {
			checkParse(t, s)
			for _, c := range "-/+0126._" {
				longer = append(longer, s+string(c))
			}
		}
		l = longer
	}
	for _, s := range l {
		checkParse(t, s)
	}
	for c := range 256 {
		for _, s := range []string{string([]byte{byte(c)}), "1/" + string([]byte{byte(c)}), string([]byte{byte(c)}) + "5", "5" + string([]byte{byte(c)})} {
			checkParse(t, s)
		}
	}
}

// P2.5
func TestParseLongStrings(t *testing.T) {
	for _, s := range []string{
		"1152921504606846976", "-1152921504606846976", "1152921504606846977", "-1152921504606846977", "1/1152921504606846976",
		"1/1152921504606846977", "1152921504606846975/1152921504606846976", "1152921504606846976/1152921504606846976",
		"9223372036854775807", "9223372036854775808", "-9223372036854775808", "-9223372036854775809", "18446744073709551615",
		"18446744073709551616", "18446744073709551617", "1/9223372036854775808", "1/18446744073709551617", "-1/18446744073709551619",
		"36893488147419103233/36893488147419103232", "1152921504606846976/2", "0/5", "0/1", "5/1", "-0/1", "1/0", "0/0", "1//2", "1/2/3",
		"1/2/", "/", "1/", "/2", "-/2", "0x10", "1e3", "1_000", "0b1", "0o7", "１", "½", "−1", " 1", "1 ", "1\n", "1 /2", "1/ 2",
		"1\x00", "1/2\xff", strings.Repeat("9", 1000), "1/" + strings.Repeat("9", 1000), strings.Repeat("0", 1000) + "1", strings.Repeat("-", 1000) + "1",
	} {
		checkParse(t, s)
	}
}

// P2.5, P2.6: each fraction has its text, and texts that are almost the same have others, or none.
func TestParseTexts(t *testing.T) {
	for _, a := range someFractions(1000) {
		s, _ := ratio.Text(a)
		if b, e := ratio.Parse(s); b != a || e != api.OK {
			t.Errorf("Parse(%q) = %v, %d", s, b, e)
		}
		num, den := strconv.Itoa(a.Num), strconv.Itoa(a.Den)
		for _, s := range []string{num + "/" + den, num, num + "/0" + den, "0" + num, "-" + num, num + "/-" + den, "+" + s, s + "0", s + "/1", s[:len(s)-1]} {
			checkParse(t, s)
		}
	}
}
