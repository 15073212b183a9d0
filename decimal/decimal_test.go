package decimal_test

import (
	"math"
	"math/big"
	"math/rand"
	"regexp"
	"strconv"
	"strings"
	"testing"

	"stirrup/api"
	"stirrup/decimal"
)

const (
	greatest     = 1 << 60
	greatestText = "1152921504606846976"
	greatestUnit = 1 << 40
)

// notPlaces are numbers of digits after the point that are out of range.
var notPlaces = []int{-1, 10, math.MinInt, math.MaxInt}

// notNumbers are integers that are no numbers of the layer.
var notNumbers = []int{greatest + 1, -greatest - 1, math.MinInt, math.MaxInt}

// edgeNumbers are numbers around which signs, sizes, or limits change.
var edgeNumbers = []int{
	0, 1, -1, 4, 5, 6, -4, -5, -6, 9, 10, -9, -10, 99, 100, 999999999, 1000000000, -999999999, -1000000000,
	greatestUnit - 1, greatestUnit, greatestUnit + 1, -greatestUnit, greatest - 1, greatest, 1 - greatest, -greatest,
}

// someNumbers returns the edge numbers, and numbers of all sizes.
func someNumbers(r *rand.Rand) []int {
	l := append([]int{}, edgeNumbers...)
	for bits := 1; bits <= 60; bits++ {
		for range 20 {
			n := r.Intn(1 << bits)
			l = append(l, n, -n)
		}
	}
	return l
}

// textOf is a decimal text that is made in another way: from the digits of strconv.
func textOf(n, digits int) string {
	sign := ""
	if n < 0 {
		sign, n = "-", -n
	}
	s := strconv.Itoa(n)
	if len(s) <= digits {
		s = strings.Repeat("0", digits+1-len(s)) + s
	}
	if digits == 0 {
		return sign + s
	}
	return sign + s[:len(s)-digits] + "." + s[len(s)-digits:]
}

// P1.1
func TestFormat(t *testing.T) {
	for _, c := range []struct {
		n, digits int
		want      string
	}{
		{-1234, 2, "-12.34"}, {5, 3, "0.005"}, {1234, 0, "1234"}, {-7, 0, "-7"}, {100, 2, "1.00"},
		{0, 0, "0"}, {0, 1, "0.0"}, {0, 9, "0.000000000"}, {-5, 1, "-0.5"}, {-1, 9, "-0.000000001"},
		{1000000000, 9, "1.000000000"}, {999999999, 9, "0.999999999"},
		{greatest, 0, greatestText}, {-greatest, 0, "-" + greatestText},
		{greatest, 9, "1152921504.606846976"}, {-greatest, 9, "-1152921504.606846976"},
	} {
		if s, e := decimal.Format(c.n, c.digits); s != c.want || e != api.OK {
			t.Errorf("Format(%d, %d) = %q, %d; want %q", c.n, c.digits, s, e, c.want)
		}
	}
	for _, n := range someNumbers(rand.New(rand.NewSource(1))) {
		for digits := 0; digits <= 9; digits++ {
			if s, e := decimal.Format(n, digits); s != textOf(n, digits) || e != api.OK {
				t.Errorf("Format(%d, %d) = %q, %d; want %q", n, digits, s, e, textOf(n, digits))
			}
		}
	}
}

// P1.1
func TestFormatErrors(t *testing.T) {
	for _, digits := range notPlaces {
		for _, n := range append([]int{0, 7, greatest}, notNumbers...) {
			if s, e := decimal.Format(n, digits); s != "" || e != api.ErrRange {
				t.Errorf("Format(%d, %d) = %q, %d; want ErrRange", n, digits, s, e)
			}
		}
	}
	for _, n := range notNumbers {
		for _, digits := range []int{0, 9} {
			if s, e := decimal.Format(n, digits); s != "" || e != api.ErrBig {
				t.Errorf("Format(%d, %d) = %q, %d; want ErrBig", n, digits, s, e)
			}
		}
	}
}

// P1.2
func TestParse(t *testing.T) {
	for _, c := range []struct {
		s      string
		digits int
		want   int
	}{
		{"12.3", 2, 1230}, {"12.34", 2, 1234}, {"12", 2, 1200}, {"-12.34", 2, -1234}, {"7", 3, 7000}, {"42", 0, 42},
		{"0", 0, 0}, {"-0", 0, 0}, {"0", 9, 0}, {"0.0", 1, 0}, {"-0.0", 1, 0}, {"0.00", 9, 0},
		{"0.05", 2, 5}, {"-0.05", 2, -5}, {"0.5", 2, 50}, {"10", 0, 10}, {"0.000000001", 9, 1}, {"1.10", 2, 110},
		{greatestText, 0, greatest}, {"-" + greatestText, 0, -greatest},
		{"1152921504.606846976", 9, greatest}, {"-1152921504.606846976", 9, -greatest},
		{"1152921504.60684697", 9, greatest - 6}, {"115292150460684697.6", 1, greatest},
	} {
		if n, e := decimal.Parse(c.s, c.digits); n != c.want || e != api.OK {
			t.Errorf("Parse(%q, %d) = %d, %d; want %d", c.s, c.digits, n, e, c.want)
		}
	}
}

// P1.2
func TestParseErrors(t *testing.T) {
	type call struct {
		s      string
		digits int
		want   api.Errno
	}
	calls := []call{
		{"", 2, api.ErrForm}, {"-", 2, api.ErrForm}, {".", 2, api.ErrForm}, {"-.", 2, api.ErrForm}, {".5", 2, api.ErrForm}, {"-.5", 2, api.ErrForm},
		{"1.", 2, api.ErrForm}, {"1.", 0, api.ErrForm}, {"1.5", 0, api.ErrForm}, {"1.0", 0, api.ErrForm}, {"1.234", 2, api.ErrForm}, {"1.230", 2, api.ErrForm},
		{"0.0000000000", 9, api.ErrForm}, {"007", 2, api.ErrForm}, {"00", 2, api.ErrForm}, {"-00", 2, api.ErrForm}, {"01.5", 2, api.ErrForm}, {"00.5", 2, api.ErrForm},
		{"+1", 2, api.ErrForm}, {"--1", 2, api.ErrForm}, {"1-", 2, api.ErrForm}, {"-+1", 2, api.ErrForm}, {"1.-5", 2, api.ErrForm}, {"1..5", 2, api.ErrForm}, {"1.2.3", 9, api.ErrForm},
		{" 1", 2, api.ErrForm}, {"1 ", 2, api.ErrForm}, {"1\n", 2, api.ErrForm}, {"1,5", 2, api.ErrForm}, {"a", 2, api.ErrForm}, {"1a", 2, api.ErrForm}, {"1.a", 2, api.ErrForm}, {"1e3", 2, api.ErrForm},
		{"1_000", 2, api.ErrForm}, {"0x1", 2, api.ErrForm}, {"\x00", 2, api.ErrForm}, {"1\xff", 2, api.ErrForm}, {"\u0663", 2, api.ErrForm},
		{"1152921504606846977", 0, api.ErrBig}, {"-1152921504606846977", 0, api.ErrBig}, {greatestText, 1, api.ErrBig}, {"1152921504.606846977", 9, api.ErrBig},
		{"9223372036854775807", 0, api.ErrBig}, {"9223372036854775808", 0, api.ErrBig}, {"18446744073709551616", 0, api.ErrBig}, {"18446744073709551617", 0, api.ErrBig}, {"-36893488147419103233", 0, api.ErrBig},
		{strings.Repeat("9", 100000), 0, api.ErrBig}, {"1" + strings.Repeat("0", 100000), 9, api.ErrBig},
		// The form is looked at before the value.
		{strings.Repeat("9", 30) + ".", 2, api.ErrForm}, {strings.Repeat("9", 30) + ".123", 2, api.ErrForm}, {"0" + strings.Repeat("9", 30), 0, api.ErrForm},
	}
	for _, digits := range notPlaces {
		calls = append(calls, call{"1", digits, api.ErrRange}, call{"", digits, api.ErrRange}, call{"x", digits, api.ErrRange}, call{strings.Repeat("9", 30), digits, api.ErrRange})
	}
	for _, c := range calls {
		if n, e := decimal.Parse(c.s, c.digits); n != 0 || e != c.want {
			t.Errorf("Parse(%.40q, %d) = %d, %d; want error %d", c.s, c.digits, n, e, c.want)
		}
	}
}

// stringsOf calls f with all strings of at most so many of these bytes.
func stringsOf(bytes string, most int, f func(s string)) {
	var grow func(s string)
	grow = func(s string) {
		f(s)
		if len(s) == most {
			return
		}
		for i := range len(bytes) {
			grow(s + bytes[i:i+1])
		}
	}
	grow("")
}

// P1.2: all short strings, against the form as an expression, and big integers.
func TestParseShortStrings(t *testing.T) {
	for _, digits := range []int{0, 1, 2, 9} {
		form := `^-?(0|[1-9][0-9]*)$`
		if digits > 0 {
			form = `^-?(0|[1-9][0-9]*)(\.[0-9]{1,` + strconv.Itoa(digits) + `})?$`
		}
		expression := regexp.MustCompile(form)
		stringsOf("-.019 ", 5, func(s string) {
			n, e := decimal.Parse(s, digits)
			if !expression.MatchString(s) {
				if n != 0 || e != api.ErrForm {
					t.Errorf("Parse(%q, %d) = %d, %d; want ErrForm", s, digits, n, e)
				}
				return
			}
			value, _ := new(big.Rat).SetString(s)
			power := new(big.Int).Exp(big.NewInt(10), big.NewInt(int64(digits)), nil)
			value.Mul(value, new(big.Rat).SetInt(power))
			if e != api.OK || value.Cmp(new(big.Rat).SetInt64(int64(n))) != 0 {
				t.Errorf("Parse(%q, %d) = %d, %d; want %s", s, digits, n, e, value)
			}
		})
	}
}

// P1.3
func TestRound(t *testing.T) {
	for _, c := range []struct{ n, unit, want int }{
		{15, 10, 2}, {14, 10, 1}, {16, 10, 2}, {5, 10, 1}, {4, 10, 0}, {-15, 10, -1}, {-14, 10, -1}, {-16, 10, -2}, {-5, 10, 0}, {-6, 10, -1},
		{4, 3, 1}, {5, 3, 2}, {-4, 3, -1}, {-5, 3, -2}, {1, 3, 0}, {-1, 3, 0}, {2, 3, 1}, {-2, 3, -1},
		{0, 1, 0}, {7, 1, 7}, {-7, 1, -7}, {1, 2, 1}, {-1, 2, 0}, {-3, 2, -1}, {0, greatestUnit, 0},
		{greatest, 1, greatest}, {-greatest, 1, -greatest}, {greatest, 2, greatest / 2}, {greatest, greatestUnit, 1 << 20}, {-greatest, greatestUnit, -1 << 20},
		{greatest - 1, greatestUnit, 1 << 20}, {greatestUnit / 2, greatestUnit, 1}, {greatestUnit/2 - 1, greatestUnit, 0}, {-greatestUnit / 2, greatestUnit, 0}, {-greatestUnit/2 - 1, greatestUnit, -1},
	} {
		if m, e := decimal.Round(c.n, c.unit); m != c.want || e != api.OK {
			t.Errorf("Round(%d, %d) = %d, %d; want %d", c.n, c.unit, m, e, c.want)
		}
	}
}

// P1.3
func TestRoundErrors(t *testing.T) {
	for _, unit := range []int{0, -1, greatestUnit + 1, math.MinInt, math.MaxInt} {
		for _, n := range append([]int{0, 7, greatest}, notNumbers...) {
			if m, e := decimal.Round(n, unit); m != 0 || e != api.ErrRange {
				t.Errorf("Round(%d, %d) = %d, %d; want ErrRange", n, unit, m, e)
			}
		}
	}
	for _, n := range notNumbers {
		for _, unit := range []int{1, 10, greatestUnit} {
			if m, e := decimal.Round(n, unit); m != 0 || e != api.ErrBig {
				t.Errorf("Round(%d, %d) = %d, %d; want ErrBig", n, unit, m, e)
			}
		}
	}
}

// P1.6: texts of numbers are read back.
func TestTextsAreReadBack(t *testing.T) {
	for _, n := range someNumbers(rand.New(rand.NewSource(2))) {
		for digits := 0; digits <= 9; digits++ {
			s, _ := decimal.Format(n, digits)
			if back, e := decimal.Parse(s, digits); back != n || e != api.OK {
				t.Errorf("Parse(%q, %d) = %d, %d; want %d", s, digits, back, e, n)
			}
		}
	}
}

// P1.3, P1.6: what rounding leaves is from -unit/2 to less than unit/2, and it keeps the order.
func TestRoundingKeepsTheOrder(t *testing.T) {
	r := rand.New(rand.NewSource(3))
	numbers := someNumbers(r)
	units := []int{1, 2, 3, 7, 10, 1000, greatestUnit - 1, greatestUnit}
	for range 50 {
		units = append(units, 1+r.Intn(greatestUnit))
	}
	for _, unit := range units {
		for _, n := range numbers {
			m, e := decimal.Round(n, unit)
			// 2 (n - m unit) fits, as it is compared with one unit only.
			if rest := n - m*unit; e != api.OK || 2*rest < -unit || 2*rest >= unit {
				t.Fatalf("Round(%d, %d) = %d, %d, which leaves %d", n, unit, m, e, rest)
			}
			if n == greatest {
				continue
			}
			if next, _ := decimal.Round(n+1, unit); next < m {
				t.Fatalf("Round(%d, %d) = %d, but Round(%d, %d) = %d", n, unit, m, n+1, unit, next)
			}
		}
	}
}
