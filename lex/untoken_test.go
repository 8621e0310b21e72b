package lex_test

import (
	"slices"
	"strings"
	"testing"

	"cistern/api"
)

func TestP18_2WhatIsWritten(t *testing.T) {
	checkUntoken(t, nil, "")
	checkUntoken(t, list(word("a", 0)), "a")
	checkUntoken(t, list(mark(";", 0)), ";")
	checkUntoken(t, list(name("", 0)), `""`)
	checkUntoken(t, list(name("", 0), name(" ", 0), name("", 0)), `"" " " ""`)
	checkUntoken(t, list(number(0, 0)), "0")
	checkUntoken(t, list(number(1024, 0)), "1024")
	checkUntoken(t, list(number(1048576, 0)), "1048576")
	checkUntoken(t, list(number(mostNumber, 0)), "1099511627776")
	checkUntoken(t, list(number(1, 0), number(2, 0)), "1 2")
	checkUntoken(t, list(word("a", 0), word("b", 0)), "a b")
	checkUntoken(t, list(number(1, 0), word("K", 0)), "1 K")
	checkUntoken(t, list(mark("-", 0), number(1, 0)), "- 1")
	checkUntoken(t, list(name("a-${i+1}.b", 0), word("_x9", 13)), `"a-${i+1}.b" _x9`)
	checkUntoken(t, list(name("#", 0), word(letters+digits, 0)), `"#" `+letters+digits)
	for _, m := range strings.Split(marks, "") {
		checkUntoken(t, list(mark(m, 0), mark(m, 0)), m+" "+m)
	}
}

func TestP18_2PlacesAreNotLookedAt(t *testing.T) {
	for _, at := range []int{-1 << 63, -1, 0, 1, mostText, mostText + 1, 1<<63 - 1} {
		checkUntoken(t, list(word("a", at), mark(";", at), name("x y", at), number(2048, at)), `a ; "x y" 2048`)
	}
}

// refusals gives tokens that may not be, of each kind, for each reason.
func refusals() []api.Token {
	var out []api.Token
	for _, kind := range []int{-1 << 63, -4, -1, 0, 5, 6, 9, 257, 1<<32 + 1, 1<<63 - 1} {
		out = append(out, api.Token{Kind: kind}, api.Token{Kind: kind, Text: "a"}, api.Token{Kind: kind, Text: ";"}, api.Token{Kind: kind, Number: 1})
	}
	for _, text := range []string{"", "1", "1a", "9", " ", "a ", " a", "a b", "a;", ";", "a-b", "a.b", `"a"`, `"`, "#", "#a", "a#", "a#b", "a\n", "\na", "é", "aé", "a\x00", "\xff", "a\"b\"", "$", "${a}"} {
		out = append(out, word(text, 0))
	}
	for _, text := range []string{`"`, `a"`, `"a`, `a"b`, `a" "b`, `""`, "$", "a$", "$a", "$$", "${", "${a", "a${", "${a}${", "}", "a}", "${a}}", "{", "{a}", "${{}", "${${a}}", `${"}`, "${a\n}", "\n", "a\n", "\t", "\r", "\x00", "\x1f", "\x7f", "\x80", "\xff", "é"} {
		out = append(out, name(text, 0))
	}
	for _, text := range []string{"", " ", ";;", "; ", " ;", "<=", "a", "_", "1", `"`, "!", ">", ".", ":", "[", "]", "#", "$", "&", "|", "~", "\n", "\x00", "\xff", `""`, "-1", ";a"} {
		out = append(out, mark(text, 0))
	}
	for _, value := range []int{-1 << 63, -mostNumber, -1, mostNumber + 1, 1 << 41, 1<<63 - 1} {
		out = append(out, number(value, 0))
	}
	for _, text := range []string{"5", "0", "5K", " ", "a", ";", `"5"`, "\x00"} {
		out = append(out, api.Token{Kind: api.TokenNumber, Text: text, Number: 5}, api.Token{Kind: api.TokenNumber, Text: text})
	}
	for _, value := range []int{-1 << 63, -1, 1, 5, mostNumber, 1<<63 - 1} {
		out = append(out, api.Token{Kind: api.TokenWord, Text: "a", Number: value}, api.Token{Kind: api.TokenName, Text: "a", Number: value},
			api.Token{Kind: api.TokenName, Number: value}, api.Token{Kind: api.TokenMark, Text: ";", Number: value})
	}
	return out
}

func TestP18_2TokensThatMayNotBe(t *testing.T) {
	for _, bad := range refusals() {
		checkNoUntoken(t, list(bad), api.ErrLexToken)
		checkNoUntoken(t, list(word("a", 0), bad), api.ErrLexToken)
		checkNoUntoken(t, list(bad, word("a", 0)), api.ErrLexToken)
		checkNoUntoken(t, list(bad, bad), api.ErrLexToken)
	}
}

func TestP18_2EachByteOfEachKind(t *testing.T) {
	for b := range 256 {
		text := string([]byte{byte(b)})
		for _, c := range []struct {
			token api.Token
			is    bool
			want  string
		}{
			{word(text, 0), isOf(letters, b), text},
			{word("a"+text, 0), isOf(letters, b) || isOf(digits, b), "a" + text},
			{word("a"+text+"b", 0), isOf(letters, b) || isOf(digits, b), "a" + text + "b"},
			{mark(text, 0), isOf(marks, b), text},
			{name(text, 0), isOfName(b), `"` + text + `"`},
			{name("a"+text+"b", 0), isOfName(b), `"a` + text + `b"`},
			{name("${"+text+"}", 0), isOfName(b), `"${` + text + `}"`},
			{name("a${b"+text+"}c", 0), isOfName(b), `"a${b` + text + `}c"`},
			{api.Token{Kind: b}, b == api.TokenName || b == api.TokenNumber, map[int]string{api.TokenName: `""`, api.TokenNumber: "0"}[b]},
		} {
			if c.is {
				checkUntoken(t, list(c.token), c.want)
			} else {
				checkNoUntoken(t, list(c.token), api.ErrLexToken)
			}
		}
	}
}

func TestP18_2HowManyTokensMayBe(t *testing.T) {
	for _, token := range list(word("a", 0), mark(";", 0), number(7, 0), name("", 0)) {
		text := map[int]string{api.TokenWord: "a", api.TokenMark: ";", api.TokenNumber: "7", api.TokenName: `""`}[token.Kind]
		checkUntoken(t, slices.Repeat(list(token), mostTokens), manyOf(text, " "))
		for _, count := range []int{mostTokens + 1, mostTokens + 2, 2 * mostTokens, 4*mostTokens + 1} {
			checkNoUntoken(t, slices.Repeat(list(token), count), api.ErrLexMany)
		}
	}
}

func TestP18_2HowLongTheTextMayBe(t *testing.T) {
	for _, c := range []struct {
		ahead []api.Token
		text  string
	}{{nil, ""}, {list(mark(";", 0)), "; "}, {list(name("x y", 0), number(mostNumber, 0)), `"x y" 1099511627776 `}, {slices.Repeat(list(number(1, 0)), 10000), strings.Repeat("1 ", 10000)}} {
		rest := mostText - len(c.text)
		long := strings.Repeat("a", rest)
		checkUntoken(t, append(slices.Clone(c.ahead), word(long, 0)), c.text+long)
		checkUntoken(t, append(slices.Clone(c.ahead), name(long[2:], 0)), c.text+`"`+long[2:]+`"`)
		checkUntoken(t, append(slices.Clone(c.ahead), word(long[2:], 0), mark("-", 0)), c.text+long[2:]+" -")
		for _, more := range []int{1, 2, mostText, 10 * mostText} {
			longer := long + strings.Repeat("a", more)
			checkNoUntoken(t, append(slices.Clone(c.ahead), word(longer, 0)), api.ErrLexLong)
			checkNoUntoken(t, append(slices.Clone(c.ahead), name(longer[2:], 0)), api.ErrLexLong)
			checkNoUntoken(t, append(slices.Clone(c.ahead), word(longer[2:], 0), mark("-", 0)), api.ErrLexLong)
			checkNoUntoken(t, append(list(word(longer, 0)), c.ahead...), api.ErrLexLong)
		}
	}
	// 16384 tokens of three bytes, with the blanks between, are 65535 bytes: one more is just right.
	three := slices.Repeat(list(number(123, 0)), mostTokens)
	checkUntoken(t, three, manyOf("123", " "))
	three[9] = word("four", 0)
	checkUntoken(t, three, strings.Repeat("123 ", 9)+"four "+strings.TrimSuffix(strings.Repeat("123 ", mostTokens-10), " "))
	three[mostTokens-1] = name("ab", 0)
	checkNoUntoken(t, three, api.ErrLexLong)
}

func TestP18_2TheOrderOfTheErrors(t *testing.T) {
	long := word(strings.Repeat("a", mostText+1), 0)
	checkNoUntoken(t, list(long), api.ErrLexLong)
	checkNoUntoken(t, slices.Repeat(list(long), 100), api.ErrLexLong)
	checkNoUntoken(t, list(name(strings.Repeat("a", mostText)+"$", 0)), api.ErrLexToken)
	checkNoUntoken(t, list(mark(strings.Repeat(";", mostText+1), 0)), api.ErrLexToken)
	for _, bad := range list(word("", 0), api.Token{Kind: 9}, number(-1, 0), name("$", 0), api.Token{}) {
		checkNoUntoken(t, list(long, bad), api.ErrLexToken)
		checkNoUntoken(t, list(bad, long), api.ErrLexToken)
		checkNoUntoken(t, list(long, long, word("a", 0), bad, long), api.ErrLexToken)
		most := slices.Repeat(list(number(1, 0)), mostTokens)
		for _, at := range []int{0, 1, mostTokens / 2, mostTokens - 1} {
			with := slices.Clone(most)
			with[at] = bad
			checkNoUntoken(t, with, api.ErrLexToken)
			checkNoUntoken(t, append(with, number(1, 0)), api.ErrLexMany)
			with[mostTokens-1-at] = long
			checkNoUntoken(t, append(with, bad), api.ErrLexMany)
		}
	}
	checkNoUntoken(t, make([]api.Token, mostTokens), api.ErrLexToken)
	checkNoUntoken(t, make([]api.Token, mostTokens+1), api.ErrLexMany)
}
