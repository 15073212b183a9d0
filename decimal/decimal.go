// Package decimal is layer 1: decimal numbers, their rounding, and tokens of texts; see shared/doc/01-decimal.md.
package decimal

import (
	"strings"

	"stirrup/api"
)

const (
	maxNumber = 1 << 60 // the greatest absolute value of a number
	maxDigits = 9       // the most digits after the point
	maxUnit   = 1 << 40 // the greatest unit of rounding

	// A minus sign, the 19 digits of maxNumber, and a point.
	maxBytes = 1 + 19 + 1
)

// Format returns the decimal text of n with so many digits after the point.
func Format(n, digits int) (string, api.Errno) {
	if !isPlaces(digits) {
		return "", api.ErrRange
	}
	if !isNumber(n) {
		return "", api.ErrBig
	}
	text := make([]byte, maxBytes)
	at := len(text)
	rest := max(n, -n)
	for written := 0; rest > 0 || written <= digits; written++ {
		if written == digits && digits > 0 {
			at--
			text[at] = '.'
		}
		at--
		text[at] = byte('0' + rest%10)
		rest /= 10
	}
	if n < 0 {
		at--
		text[at] = '-'
	}
	return string(text[at:]), api.OK
}

// Parse returns the number n for which s stands for n / 10^digits.
func Parse(s string, digits int) (int, api.Errno) {
	if !isPlaces(digits) {
		return 0, api.ErrRange
	}
	unsigned := strings.TrimPrefix(s, "-")
	whole, part, pointed := strings.Cut(unsigned, ".")
	if !isWhole(whole) {
		return 0, api.ErrForm
	}
	if pointed && (len(part) == 0 || len(part) > digits || !isDigits(part)) {
		return 0, api.ErrForm
	}
	n, fits := value(whole + part + strings.Repeat("0", digits-len(part)))
	if !fits {
		return 0, api.ErrBig
	}
	if len(unsigned) < len(s) {
		n = -n
	}
	return n, api.OK
}

// Round returns the multiple of the unit that is nearest to n; halves go up.
func Round(n, unit int) (int, api.Errno) {
	if unit < 1 || unit > maxUnit {
		return 0, api.ErrRange
	}
	if !isNumber(n) {
		return 0, api.ErrBig
	}
	multiple, rest := n/unit, n%unit
	// Go divides towards zero; the multiple that is not above n is wanted.
	if rest < 0 {
		multiple--
		rest += unit
	}
	if 2*rest >= unit {
		multiple++
	}
	return multiple, api.OK
}

func isPlaces(digits int) bool { return digits >= 0 && digits <= maxDigits }

func isNumber(n int) bool { return n >= -maxNumber && n <= maxNumber }

// isWhole reports whether s is an integral part without superfluous zeros.
func isWhole(s string) bool {
	return s == "0" || s != "" && s[0] != '0' && isDigits(s)
}

func isDigits(s string) bool { return digitsSize(s) == len(s) }

// value returns the number with these digits, and whether it is at most maxNumber.
func value(digits string) (int, bool) {
	n := 0
	for i := range len(digits) {
		d := int(digits[i] - '0')
		// Checked before multiplying: ten times a number may not fit into an int.
		if n > (maxNumber-d)/10 {
			return 0, false
		}
		n = 10*n + d
	}
	return n, true
}
