package ratio

import (
	"strconv"
	"strings"

	"stirrup/api"
)

// Text returns the text of a fraction.
func Text(a api.Frac) (string, api.Errno) {
	if !Valid(a) {
		return "", api.ErrArg
	}
	text := strconv.Itoa(a.Num)
	if a.Den != 1 {
		text += "/" + strconv.Itoa(a.Den)
	}
	return text, api.OK
}

// Parse returns the fraction with the text s.
func Parse(s string) (api.Frac, api.Errno) {
	over, under, slashed := strings.Cut(s, "/")
	if !slashed {
		under = "1"
	}
	num, wrongNum := strconv.Atoi(over)
	den, wrongDen := strconv.Atoi(under)
	if wrongNum != nil || wrongDen != nil {
		return api.Frac{}, api.ErrForm
	}
	// Atoi takes other texts of numbers too, so that only the way back tells whether this is the one.
	a := api.Frac{Num: num, Den: den}
	if text, e := Text(a); e != api.OK || text != s {
		return api.Frac{}, api.ErrForm
	}
	return a, api.OK
}
