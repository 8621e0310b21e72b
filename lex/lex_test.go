package lex_test

import (
	"fmt"
	"slices"
	"strings"
	"testing"

	"cistern/api"
	"cistern/lex"
)

func word(text string, at int) api.Token {
	return api.Token{Kind: api.TokenWord, Text: text, At: at}
}

func name(text string, at int) api.Token {
	return api.Token{Kind: api.TokenName, Text: text, At: at}
}

func number(value int, at int) api.Token {
	return api.Token{Kind: api.TokenNumber, Number: value, At: at}
}

func mark(text string, at int) api.Token {
	return api.Token{Kind: api.TokenMark, Text: text, At: at}
}

func list(ts ...api.Token) []api.Token { return ts }

// The bytes that the chapter's words name, written out one by one.
const (
	letters = "abcdefghijklmnopqrstuvwxyzABCDEFGHIJKLMNOPQRSTUVWXYZ_"
	digits  = "0123456789"
	marks   = ";{}(),=<+-*/%"
	blanks  = " \t\n\r"
	held    = "\"${}" // what may not stand in a name for itself
)

const (
	mostText   = 65536
	mostTokens = 16384
	mostNumber = 1099511627776
)

func isOf(bytes string, b int) bool { return strings.IndexByte(bytes, byte(b)) >= 0 }

func isOfName(b int) bool { return b >= 32 && b <= 126 && !isOf(held, b) }

// short cuts what a test tells.
func short(text string) string {
	if len(text) > 300 {
		return text[:150] + " ... " + text[len(text)-100:] + fmt.Sprintf(" (%d in all)", len(text))
	}
	return text
}

func told(ts []api.Token) string { return short(fmt.Sprintf("%+v", ts)) }

func checkTokens(t *testing.T, text string, want ...api.Token) {
	t.Helper()
	ts, at, e := lex.Tokens([]byte(text))
	if !slices.Equal(ts, want) || at != 0 || e != api.OK {
		t.Errorf("Tokens(%s) = %s, %d, %d; want %s", short(fmt.Sprintf("%q", text)), told(ts), at, e, told(want))
	}
}

func checkNoTokens(t *testing.T, text string, at int, want api.Errno) {
	t.Helper()
	ts, got, e := lex.Tokens([]byte(text))
	if len(ts) != 0 || got != at || e != want {
		t.Errorf("Tokens(%s) = %s, %d, %d; want nothing, %d, %d", short(fmt.Sprintf("%q", text)), told(ts), got, e, at, want)
	}
}

func checkUntoken(t *testing.T, ts []api.Token, want string) {
	t.Helper()
	if text, e := lex.Untoken(ts); text != want || e != api.OK {
		t.Errorf("Untoken(%s) = %s, %d; want %s", told(ts), short(fmt.Sprintf("%q", text)), e, short(fmt.Sprintf("%q", want)))
	}
}

func checkNoUntoken(t *testing.T, ts []api.Token, want api.Errno) {
	t.Helper()
	if text, e := lex.Untoken(ts); text != "" || e != want {
		t.Errorf("Untoken(%s) = %s, %d; want nothing, %d", told(ts), short(fmt.Sprintf("%q", text)), e, want)
	}
}

func TestP18ExamplesInTheirOrder(t *testing.T) {
	checkTokens(t, "volume a size 2K;", word("volume", 0), word("a", 7), word("size", 9), number(2048, 14), mark(";", 16))

	checkTokens(t, "# x\na#b", word("a", 4))
	checkTokens(t, "")

	checkTokens(t, `"a-${i+1}.b" _x9`, name("a-${i+1}.b", 0), word("_x9", 13))

	checkTokens(t, `""`, name("", 0))

	checkTokens(t, "007M", number(7340032, 0))
	checkTokens(t, "1048576M", number(1099511627776, 0))
	checkNoTokens(t, "1048577M", 0, api.ErrLexNumber)

	checkNoTokens(t, "a 12x", 2, api.ErrLexNumber)
	checkNoTokens(t, "1Kb", 0, api.ErrLexNumber)
	checkNoTokens(t, "1K2", 0, api.ErrLexNumber)
	checkNoTokens(t, "1KK", 0, api.ErrLexNumber)
	checkNoTokens(t, "1k", 0, api.ErrLexNumber)

	checkNoTokens(t, "a\n\"b", 2, api.ErrLexQuote)
	checkNoTokens(t, "\"b\n\"", 2, api.ErrLexQuote)
	checkNoTokens(t, `"a$b"`, 2, api.ErrLexQuote)
	checkNoTokens(t, `"a}"`, 2, api.ErrLexQuote)
	checkNoTokens(t, `"${a"`, 4, api.ErrLexQuote)
	checkNoTokens(t, `"${a{}"`, 4, api.ErrLexQuote)

	checkTokens(t, "a-b", word("a", 0), mark("-", 1), word("b", 2))

	checkNoTokens(t, "a ! b", 2, api.ErrLexByte)
	checkNoTokens(t, "a \xff", 2, api.ErrLexByte)

	checkUntoken(t, list(word("a", 0), mark(";", 0), name("x y", 0), number(2048, 0)), `a ; "x y" 2048`)

	checkNoUntoken(t, list(word("1a", 0)), api.ErrLexToken)
	checkNoUntoken(t, list(api.Token{Kind: api.TokenNumber, Text: "5", Number: 5}), api.ErrLexToken)
	checkNoUntoken(t, list(mark(";;", 0)), api.ErrLexToken)
	checkNoUntoken(t, list(api.Token{Kind: 9}), api.ErrLexToken)
}
