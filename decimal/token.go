package decimal

import (
	"strings"

	"stirrup/api"
)

// What a text may begin with, besides the kinds of tokens, which are positive.
const (
	skipped = 0  // a blank, or a comment
	unknown = -1 // a byte that begins no token, or a word that is too long
)

// Tokens returns the tokens of a text, or the position of its first byte that is in none.
func Tokens(s string) ([]api.Token, api.Pos, api.Errno) {
	if len(s) > api.MaxText {
		return nil, api.Pos{}, api.ErrFull
	}
	var tokens []api.Token
	at := api.Pos{Line: 1, Column: 1}
	for len(s) > 0 {
		kind, size := first(s)
		switch kind {
		case unknown:
			return nil, at, api.ErrForm
		case skipped:
		case api.TokLine:
			tokens = append(tokens, api.Token{Kind: kind, At: at})
		default:
			tokens = append(tokens, api.Token{Kind: kind, Text: s[:size], At: at})
		}
		at.Column += size
		if kind == api.TokLine {
			at = api.Pos{Line: at.Line + 1, Column: 1}
		}
		s = s[size:]
	}
	return append(tokens, api.Token{Kind: api.TokEnd, At: at}), api.Pos{}, api.OK
}

// IsName reports whether s is a name.
func IsName(s string) bool {
	if s == "" {
		return false
	}
	kind, size := first(s)
	return kind == api.TokName && size == len(s)
}

// first returns what a text, which is not empty, begins with, and of how many bytes that is.
func first(s string) (kind, size int) {
	switch s[0] {
	case ' ', '\t':
		return skipped, 1
	case '#':
		return skipped, commentSize(s)
	case '\n':
		return api.TokLine, 1
	case '0', '1', '2', '3', '4', '5', '6', '7', '8', '9':
		return api.TokNumber, numberSize(s)
	case '>', '<', ':':
		if len(s) > 1 && s[1] == '=' {
			return api.TokSymbol, 2
		}
		return api.TokSymbol, 1
	case '-', '+', ',', ';', '/', '=', '(', ')', '*':
		return api.TokSymbol, 1
	}
	size = wordSize(s)
	if size == 0 || size > api.MaxName {
		return unknown, 0
	}
	return api.TokName, size
}

// commentSize returns how many bytes come before the next newline.
func commentSize(s string) int {
	if i := strings.IndexByte(s, '\n'); i >= 0 {
		return i
	}
	return len(s)
}

// numberSize returns the size of the number that s begins with; a point belongs to it only if a digit follows.
func numberSize(s string) int {
	size := digitsSize(s)
	if size == len(s) || s[size] != '.' {
		return size
	}
	part := digitsSize(s[size+1:])
	if part == 0 {
		return size
	}
	return size + 1 + part
}

// digitsSize returns how many digits s begins with.
func digitsSize(s string) int {
	size := 0
	for size < len(s) && isDigit(s[size]) {
		size++
	}
	return size
}

// wordSize returns the size of the word that s begins with, or 0 if there is none.
func wordSize(s string) int {
	if !isLetter(s[0]) {
		return 0
	}
	size := 1
	for size < len(s) && (isLetter(s[size]) || isDigit(s[size]) || s[size] == '_') {
		size++
	}
	return size
}

func isLetter(c byte) bool { return c >= 'a' && c <= 'z' || c >= 'A' && c <= 'Z' }

func isDigit(c byte) bool { return c >= '0' && c <= '9' }
