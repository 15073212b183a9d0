package schedule

import (
	"strconv"
	"strings"

	"stirrup/api"
	"stirrup/decimal"
)

// The forms that words have.
const (
	aName = iota
	aNumber
	aCode
)

const (
	mostDigits = 10 // of a number
	codeDigits = 2  // of a code, neither more nor fewer
)

// forms has what the words of a line are: Mark, Size, Count, Code, and a dimension; further words are dimensions too.
var forms = [...]int{aName, aNumber, aNumber, aCode, aNumber}

// Text returns the text of a schedule.
func Text(l []api.Bar) (string, api.Errno) {
	if !Valid(l) {
		return "", api.ErrArg
	}
	text := strings.Builder{}
	for _, bar := range l {
		text.WriteString(strings.Join(wordsOf(bar), " "))
		text.WriteByte('\n')
	}
	return text.String(), api.OK
}

// Parse returns the schedule with a text, or the position of the first line that does not have its form.
func Parse(s string) ([]api.Bar, api.Pos, api.Errno) {
	if len(s) > api.MaxText {
		return nil, api.Pos{}, api.ErrFull
	}
	var l []api.Bar
	at := api.Pos{Line: 1, Column: 1}
	for line := range strings.Lines(s) {
		bar, ok := barOf(line)
		if !ok {
			return nil, at, api.ErrForm
		}
		l = append(l, bar)
		at.Line++
	}
	if !Valid(l) {
		return nil, api.Pos{}, api.ErrArg
	}
	return l, api.Pos{}, api.OK
}

// wordsOf returns the words of the line of a bar that is valid.
func wordsOf(bar api.Bar) []string {
	code := strconv.Itoa(bar.Code)
	code = strings.Repeat("0", codeDigits-len(code)) + code
	words := []string{bar.Mark, strconv.Itoa(bar.Size), strconv.Itoa(bar.Count), code}
	for _, length := range bar.Dims {
		words = append(words, strconv.Itoa(length))
	}
	return words
}

// barOf returns the bar of a line, which need not be valid, and whether the line has its form.
func barOf(line string) (api.Bar, bool) {
	line, ended := strings.CutSuffix(line, "\n")
	words := strings.Split(line, " ")
	if !ended || len(words) < len(forms) {
		return api.Bar{}, false
	}
	var values []int
	for i, word := range words {
		value, ok := valueOf(word, forms[min(i, len(forms)-1)])
		if !ok {
			return api.Bar{}, false
		}
		values = append(values, value)
	}
	return api.Bar{Mark: words[0], Size: values[1], Count: values[2], Code: values[3], Dims: values[4:]}, true
}

// valueOf returns the number that a word stands for (a name stands for 0), and whether the word has a form.
func valueOf(word string, form int) (int, bool) {
	switch {
	case form == aName:
		return 0, decimal.IsName(word)
	case form == aCode && len(word) == codeDigits:
		// What is left has no superfluous zero: of two zeros there is one left.
		word = strings.TrimPrefix(word, "0")
	case form == aCode || len(word) > mostDigits:
		return 0, false
	}
	value, e := decimal.Parse(word, 0)
	return value, e == api.OK && word[0] != '-'
}
