package decimal_test

import (
	"math/rand"
	"reflect"
	"regexp"
	"strings"
	"testing"

	"stirrup/api"
	"stirrup/decimal"
)

func at(line, column int) api.Pos { return api.Pos{Line: line, Column: column} }

// P1.4
func TestTokens(t *testing.T) {
	for _, c := range []struct {
		s    string
		want []api.Token
	}{
		{"", []api.Token{{Kind: api.TokEnd, At: at(1, 1)}}},
		{" \t ", []api.Token{{Kind: api.TokEnd, At: at(1, 4)}}},
		{"\n", []api.Token{{Kind: api.TokLine, At: at(1, 1)}, {Kind: api.TokEnd, At: at(2, 1)}}},
		{"\n\n ", []api.Token{{Kind: api.TokLine, At: at(1, 1)}, {Kind: api.TokLine, At: at(2, 1)}, {Kind: api.TokEnd, At: at(3, 2)}}},
		{"# all ? of \xff\x00 it", []api.Token{{Kind: api.TokEnd, At: at(1, 17)}}},
		{"#", []api.Token{{Kind: api.TokEnd, At: at(1, 2)}}},
		{"a#b\nc", []api.Token{
			{Kind: api.TokName, Text: "a", At: at(1, 1)}, {Kind: api.TokLine, At: at(1, 4)},
			{Kind: api.TokName, Text: "c", At: at(2, 1)}, {Kind: api.TokEnd, At: at(2, 2)},
		}},
		{"set g1 := 0 # off", []api.Token{
			{Kind: api.TokName, Text: "set", At: at(1, 1)}, {Kind: api.TokName, Text: "g1", At: at(1, 5)}, {Kind: api.TokSymbol, Text: ":=", At: at(1, 8)},
			{Kind: api.TokNumber, Text: "0", At: at(1, 11)}, {Kind: api.TokEnd, At: at(1, 18)},
		}},
		{"\tA_z9_ Zz", []api.Token{
			{Kind: api.TokName, Text: "A_z9_", At: at(1, 2)}, {Kind: api.TokName, Text: "Zz", At: at(1, 8)}, {Kind: api.TokEnd, At: at(1, 10)},
		}},
		{"007 1.50", []api.Token{
			{Kind: api.TokNumber, Text: "007", At: at(1, 1)}, {Kind: api.TokNumber, Text: "1.50", At: at(1, 5)}, {Kind: api.TokEnd, At: at(1, 9)},
		}},
		{"-3a", []api.Token{
			{Kind: api.TokSymbol, Text: "-", At: at(1, 1)}, {Kind: api.TokNumber, Text: "3", At: at(1, 2)},
			{Kind: api.TokName, Text: "a", At: at(1, 3)}, {Kind: api.TokEnd, At: at(1, 4)},
		}},
		{"abcdefghijklmnopqrst", []api.Token{{Kind: api.TokName, Text: "abcdefghijklmnopqrst", At: at(1, 1)}, {Kind: api.TokEnd, At: at(1, 21)}}},
	} {
		l, p, e := decimal.Tokens(c.s)
		if !reflect.DeepEqual(l, c.want) || p != (api.Pos{}) || e != api.OK {
			t.Errorf("Tokens(%q) = %v, %v, %d; want %v", c.s, l, p, e, c.want)
		}
	}
}

// P1.4: each symbol, and longest ones first.
func TestSymbols(t *testing.T) {
	for s, want := range map[string][]string{
		">= <= :=":          {">=", "<=", ":="},
		"- + : , ; / = ( )": {"-", "+", ":", ",", ";", "/", "=", "(", ")"},
		"< > *":             {"<", ">", "*"},
		">==":               {">=", "="},
		"=>=<=":             {"=", ">=", "<="},
		"::=:":              {":", ":=", ":"},
		"<>":                {"<", ">"},
		"> =< =: =":         {">", "=", "<", "=", ":", "="},
		"-+:,;/=()<>*":      {"-", "+", ":", ",", ";", "/", "=", "(", ")", "<", ">", "*"},
	} {
		l, _, e := decimal.Tokens(s)
		var got []string
		for _, x := range l {
			if x.Kind == api.TokSymbol {
				got = append(got, x.Text)
			}
		}
		if e != api.OK || len(l) != len(want)+1 || !reflect.DeepEqual(got, want) {
			t.Errorf("Tokens(%q) = %v, %d; want %v", s, l, e, want)
		}
	}
}

// P1.4
func TestTokensErrors(t *testing.T) {
	for _, c := range []struct {
		s    string
		want api.Pos
	}{
		{"?", at(1, 1)}, {"a ?", at(1, 3)}, {"7.", at(1, 2)}, {".5", at(1, 1)}, {"1.2.3", at(1, 4)}, {"1.a", at(1, 2)}, {"1..2", at(1, 2)},
		{"\n _a", at(2, 2)}, {"a # ?\n\t?", at(2, 2)}, {"1_", at(1, 2)}, {"a\r\n", at(1, 2)}, {"a\x00", at(1, 2)}, {"a\v", at(1, 2)}, {"\u00e4", at(1, 1)}, {"a\xff", at(1, 2)}, {"\"a\"", at(1, 1)},
		{"x abcdefghijklmnopqrstu", at(1, 3)}, {"a\nabcdefghijklmnopqrst_ ?", at(2, 1)}, {"a123456789012345678901", at(1, 1)}, {"? abcdefghijklmnopqrstu", at(1, 1)},
	} {
		if l, p, e := decimal.Tokens(c.s); len(l) != 0 || p != c.want || e != api.ErrForm {
			t.Errorf("Tokens(%q) = %v, %v, %d; want ErrForm at %v", c.s, l, p, e, c.want)
		}
	}
}

// P1.4: every byte alone.
func TestTokensOfBytes(t *testing.T) {
	for c := range 256 {
		s := string([]byte{byte(c)})
		begins := c >= 'a' && c <= 'z' || c >= 'A' && c <= 'Z' || c >= '0' && c <= '9' || strings.Contains(" \t\n#-+:,;/=()<>*", s)
		l, p, e := decimal.Tokens(s)
		if begins && (e != api.OK || p != (api.Pos{}) || len(l) == 0) {
			t.Errorf("Tokens(%q) = %v, %v, %d", s, l, p, e)
		}
		if !begins && (e != api.ErrForm || p != at(1, 1) || len(l) != 0) {
			t.Errorf("Tokens(%q) = %v, %v, %d; want ErrForm", s, l, p, e)
		}
	}
}

// P1.4
func TestLongTexts(t *testing.T) {
	for _, unit := range []string{" ", "\n", "#", "1", "*", "a "} {
		s := strings.Repeat(unit, api.MaxText/len(unit))
		l, p, e := decimal.Tokens(s)
		if e != api.OK || p != (api.Pos{}) || l[len(l)-1].Kind != api.TokEnd {
			t.Errorf("MaxText bytes of %q: %v, %d", unit, p, e)
		}
		if l, p, e := decimal.Tokens(s + "?"); len(l) != 0 || p != (api.Pos{}) || e != api.ErrFull {
			t.Errorf("one byte more than MaxText of %q: %d tokens, %v, %d", unit, len(l), p, e)
		}
	}
	if _, p, e := decimal.Tokens(strings.Repeat("a", api.MaxText)); p != at(1, 1) || e != api.ErrForm {
		t.Error("a word of MaxText bytes:", p, e)
	}
}

// P1.5
func TestIsName(t *testing.T) {
	for s, want := range map[string]bool{
		"a": true, "Z": true, "a_1": true, "A__": true, "when": true, "abcdefghijklmnopqrst": true, "a2345678901234567890": true,
		"": false, "_": false, "_a": false, "1": false, "1a": false, "a b": false, " a": false, "a ": false, "a\n": false, "a#": false, "#a": false, "a-b": false, "a.b": false, ":=": false,
		"\n": false, "a\x00": false, "\u00e4": false, "a\u00e4": false, "abcdefghijklmnopqrstu": false, "a23456789012345678901": false,
	} {
		if decimal.IsName(s) != want {
			t.Errorf("IsName(%q) is not %t", s, want)
		}
	}
	expression := regexp.MustCompile(`^[a-zA-Z][a-zA-Z0-9_]*$`)
	for c := range 256 {
		for _, s := range []string{string([]byte{byte(c)}), string([]byte{'a', byte(c)})} {
			// The expression's $ stands for the very end of the text only.
			if want := expression.MatchString(s); decimal.IsName(s) != want {
				t.Errorf("IsName(%q) is not %t", s, want)
			}
		}
	}
}

// words are expressions of what is at the beginning of a text, with their kinds; 0 is no token.
var words = []struct {
	kind int
	*regexp.Regexp
}{
	{0, regexp.MustCompile(`^[ \t]`)},
	{0, regexp.MustCompile(`^#[^\n]*`)},
	{api.TokLine, regexp.MustCompile(`^\n`)},
	{api.TokName, regexp.MustCompile(`^[a-zA-Z][a-zA-Z0-9_]*`)},
	{api.TokNumber, regexp.MustCompile(`^[0-9]+(\.[0-9]+)?`)},
	{api.TokSymbol, regexp.MustCompile(`^(>=|<=|:=|[-+:,;/=()<>*])`)},
}

// tokensOf finds the tokens of a text of short words by expressions.
func tokensOf(s string) ([]api.Token, api.Pos, api.Errno) {
	var tokens []api.Token
	for i := 0; i < len(s); {
		before := s[:i]
		p := at(1+strings.Count(before, "\n"), i-strings.LastIndex(before, "\n"))
		kind, size := 0, 0
		for _, w := range words {
			if found := w.FindString(s[i:]); found != "" {
				kind, size = w.kind, len(found)
				break
			}
		}
		if size == 0 {
			return nil, p, api.ErrForm
		}
		if kind == api.TokLine {
			tokens = append(tokens, api.Token{Kind: kind, At: p})
		} else if kind != 0 {
			tokens = append(tokens, api.Token{Kind: kind, Text: s[i : i+size], At: p})
		}
		i += size
	}
	end := at(1+strings.Count(s, "\n"), len(s)-strings.LastIndex(s, "\n"))
	return append(tokens, api.Token{Kind: api.TokEnd, At: end}), api.Pos{}, api.OK
}

// P1.4: all short strings, against expressions.
func TestTokensOfShortStrings(t *testing.T) {
	stringsOf("a1_.# \n:=-", 5, func(s string) {
		l, p, e := decimal.Tokens(s)
		wantTokens, wantAt, want := tokensOf(s)
		if !reflect.DeepEqual(l, wantTokens) || p != wantAt || e != want {
			t.Errorf("Tokens(%q) = %v, %v, %d; want %v, %v, %d", s, l, p, e, wantTokens, wantAt, want)
		}
	})
}

// spaced returns the texts of tokens with spaces between them.
func spaced(l []api.Token) string {
	var texts []string
	for _, x := range l {
		texts = append(texts, x.Text)
	}
	return strings.Join(texts, " ")
}

// P1.6: the texts of the tokens of a line, with spaces between them, have the same tokens.
func TestSpacedTokens(t *testing.T) {
	r := rand.New(rand.NewSource(4))
	parts := []string{"a", "when", "x_1", "0", "1.5", "007", ">=", "<=", ":=", ":", "=", "<", ">", "-", "*", "(", ")", " ", "\t", "/", ",", ";", "+"}
	for range 5000 {
		s := ""
		for range r.Intn(12) {
			s += parts[r.Intn(len(parts))]
		}
		l, _, e := decimal.Tokens(s)
		if e == api.ErrForm {
			continue // a point without digits around it, or a word that became too long
		}
		back, p, e := decimal.Tokens(spaced(l))
		if e != api.OK || p != (api.Pos{}) || len(back) != len(l) {
			t.Fatalf("the spaced tokens of %q: %v, %v, %d", s, back, p, e)
		}
		for i, x := range back {
			if x.Kind != l[i].Kind || x.Text != l[i].Text {
				t.Fatalf("token %d of %q is %v; spaced, it is %v", i, s, l[i], x)
			}
		}
	}
}
