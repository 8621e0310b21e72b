package lex_test

import (
	"slices"
	"strconv"
	"strings"
	"testing"

	"cistern/api"
)

func TestP18_1NothingToBeTold(t *testing.T) {
	for _, text := range []string{
		"", " ", "\t", "\n", "\r", " \t\r\n", "\n\n\r\r\t\t  ", strings.Repeat(blanks, 100),
		"#", "#\n", "# x", "# x\n", "##", "#\n#", "#\n\n#\n", " # x\n\t# y\r\n ", "#\r", "# a \"b ${ 9x ! \x00\xff\x80é",
		"#" + everyByteBut('\n'), "#" + everyByteBut('\n') + "\n",
	} {
		checkTokens(t, text)
		at := len(text)
		if strings.Contains(text, "#") {
			text, at = text+"\n", at+1
		}
		checkTokens(t, text+"a", word("a", at))
		checkTokens(t, text+"a"+text+";"+text, word("a", at), mark(";", 2*at+1))
	}
}

func everyByteBut(but byte) string {
	var out []byte
	for b := range 256 {
		if byte(b) != but {
			out = append(out, byte(b))
		}
	}
	return string(out)
}

// A comment goes on to the next LF, whatever stands between, a CR, a # and a quote too.
func TestP18_1Comments(t *testing.T) {
	checkTokens(t, "a#b", word("a", 0))
	checkTokens(t, "a#b\nc", word("a", 0), word("c", 4))
	checkTokens(t, "a#\rb\nc", word("a", 0), word("c", 5))
	checkTokens(t, "a#b#\nc#", word("a", 0), word("c", 5))
	checkTokens(t, "a#\"\n\"b\"", word("a", 0), name("b", 4))
	checkTokens(t, "1#\n2", number(1, 0), number(2, 3))
	checkTokens(t, "1K#K\n", number(1024, 0))
	checkTokens(t, ";#;\n;", mark(";", 0), mark(";", 4))
	checkTokens(t, "\"#\"", name("#", 0))
	checkTokens(t, "\"a#b\" c", name("a#b", 0), word("c", 6))
	checkTokens(t, "\"${#}\"#\"", name("${#}", 0))
	checkNoTokens(t, "\"a#\nb\"", 3, api.ErrLexQuote)
	checkNoTokens(t, "#\n!", 2, api.ErrLexByte)
	for b := range 256 {
		if b != '\n' {
			checkTokens(t, "#"+string([]byte{byte(b)})+"a\nc", word("c", 4))
		}
	}
}

// alone gives what a text of one byte comes to, behind so many others.
func alone(b int, at int) ([]api.Token, int, api.Errno) {
	text := string([]byte{byte(b)})
	switch {
	case isOf(blanks, b), b == '#':
		return nil, 0, api.OK
	case isOf(letters, b):
		return list(word(text, at)), 0, api.OK
	case isOf(digits, b):
		return list(number(b-'0', at)), 0, api.OK
	case isOf(marks, b):
		return list(mark(text, at)), 0, api.OK
	case b == '"':
		return nil, at, api.ErrLexQuote
	}
	return nil, at, api.ErrLexByte
}

func TestP18_1EachByteAlone(t *testing.T) {
	for _, ahead := range []string{"", " ", "\n\t\r", "# x\n"} {
		for b := range 256 {
			want, at, e := alone(b, len(ahead))
			if e == api.OK {
				checkTokens(t, ahead+string([]byte{byte(b)}), want...)
			} else {
				checkNoTokens(t, ahead+string([]byte{byte(b)}), at, e)
			}
		}
	}
}

func TestP18_1EachByteBehindAWord(t *testing.T) {
	for b := range 256 {
		text := "ab" + string([]byte{byte(b)})
		want, at, e := alone(b, 2)
		switch {
		case isOf(letters, b), isOf(digits, b):
			checkTokens(t, text, word(text, 0))
		case e == api.OK:
			checkTokens(t, text, append(list(word("ab", 0)), want...)...)
		default:
			checkNoTokens(t, text, at, e)
		}
	}
}

// What stands behind a number, a closed name or a mark begins anew; but no letter and no digit stands behind a number.
func TestP18_1EachByteBehindTheOthers(t *testing.T) {
	for b := range 256 {
		byteText := string([]byte{byte(b)})
		for _, ahead := range []struct {
			text  string
			token api.Token
		}{{`"a"`, name("a", 0)}, {";", mark(";", 0)}, {"<", mark("<", 0)}, {"12", number(12, 0)}, {"3K", number(3072, 0)}, {"4M", number(4194304, 0)}} {
			text := ahead.text + byteText
			want, at, e := alone(b, len(ahead.text))
			isNumber := ahead.token.Kind == api.TokenNumber
			switch {
			case ahead.text == "12" && isOf(digits, b):
				checkTokens(t, text, number(120+b-'0', 0))
			case ahead.text == "12" && b == 'K':
				checkTokens(t, text, number(12288, 0))
			case ahead.text == "12" && b == 'M':
				checkTokens(t, text, number(12582912, 0))
			case isNumber && (isOf(letters, b) || isOf(digits, b)):
				checkNoTokens(t, text, 0, api.ErrLexNumber)
			case e == api.OK:
				checkTokens(t, text, append(list(ahead.token), want...)...)
			default:
				checkNoTokens(t, text, at, e)
			}
		}
	}
}

func TestP18_1Marks(t *testing.T) {
	var all []api.Token
	for i := range len(marks) {
		m := marks[i : i+1]
		all = append(all, mark(m, i))
		checkTokens(t, m, mark(m, 0))
		checkTokens(t, m+m, mark(m, 0), mark(m, 1))
		checkTokens(t, "a"+m+"b", word("a", 0), mark(m, 1), word("b", 2))
		checkTokens(t, "1"+m+"2", number(1, 0), mark(m, 1), number(2, 2))
		checkTokens(t, `"a"`+m+`"b"`, name("a", 0), mark(m, 3), name("b", 4))
	}
	checkTokens(t, marks, all...)
}

func TestP18_1Words(t *testing.T) {
	for _, w := range []string{"a", "z", "A", "Z", "_", "a0", "a9", "_0", "z_Z9", "__", "K", "M", "K1", letters + digits, strings.Repeat("x", mostText)} {
		checkTokens(t, w, word(w, 0))
	}
	// What stands just beside the letters and the digits is none of them.
	for _, b := range []string{"`", "{", "@", "[", "^", "/", ":", ".", "-"} {
		want, at, e := alone(int(b[0]), 1)
		if e != api.OK {
			checkNoTokens(t, "a"+b+"b", at, e)
			continue
		}
		checkTokens(t, "a"+b+"b", append(append(list(word("a", 0)), want...), word("b", 2))...)
	}
	checkTokens(t, "a b", word("a", 0), word("b", 2))
	checkTokens(t, "a9 9", word("a9", 0), number(9, 3))
	checkTokens(t, "\ta\r\nb", word("a", 1), word("b", 4))
	checkNoTokens(t, "é", 0, api.ErrLexByte)
	checkNoTokens(t, "aé", 1, api.ErrLexByte)
}

func TestP18_1NumbersAndTheirBound(t *testing.T) {
	zeros := []string{"", "0", "000", strings.Repeat("0", 19), strings.Repeat("0", 21), strings.Repeat("0", 5000)}
	for _, z := range zeros {
		for _, value := range []int{0, 1, 9, 10, 1023, 65536, 1<<31 - 1, 1 << 31, 1<<32 + 1, 999999999999, mostNumber - 1, mostNumber} {
			text := z + strconv.Itoa(value)
			checkTokens(t, text, number(value, 0))
			checkTokens(t, text+";", number(value, 0), mark(";", len(text)))
		}
		for _, value := range []int{0, 1, 7, 1 << 20, 1<<30 - 1, 1 << 30} {
			checkTokens(t, z+strconv.Itoa(value)+"K", number(value*1024, 0))
		}
		for _, value := range []int{0, 1, 7, 1<<20 - 1, 1 << 20} {
			checkTokens(t, z+strconv.Itoa(value)+"M", number(value*1048576, 0))
		}
		for _, text := range tooGreat() {
			checkNoTokens(t, z+text, 0, api.ErrLexNumber)
			checkNoTokens(t, "a "+z+text+" b", 2, api.ErrLexNumber)
		}
	}
	checkTokens(t, strings.Repeat("0", mostText), number(0, 0))
	checkTokens(t, strings.Repeat("0", mostText-2)+"9M", number(9437184, 0))
	checkNoTokens(t, strings.Repeat("9", mostText), 0, api.ErrLexNumber)
}

// tooGreat gives numbers above the bound, those among them that are small again where a number wraps round.
func tooGreat() []string {
	return []string{
		"1099511627777", "1099511627786", "1099511627780", "1099511628800", "2199023255552", "9999999999999", "10995116277760",
		"4611686018427387904", "9223372036854775807", "9223372036854775808", "9223372036854775809", "18446744073709551615",
		"18446744073709551616", "18446744073709551617", "184467440737095516160", "36893488147419103232", strings.Repeat("9", 99),
		"340282366920938463463374607431768211456", "340282366920938463463374607431768211457",
		"1073741825K", "1099511627776K", "18014398509481984K", "18014398509481985K", "9007199254740992K", "18446744073709551616K",
		"1048577M", "1099511627776M", "1099511627777M", "8796093022208M", "17592186044416M", "17592186044417M", "18446744073709551617M",
	}
}

func TestP18_1WhatStandsBehindANumber(t *testing.T) {
	for _, n := range []string{"0", "1", "12", "1099511627776", "1099511627777", "1K", "0M", "1M", "1048577M"} {
		for i := range len(letters) {
			if (letters[i] == 'K' || letters[i] == 'M') && isOf(digits, int(n[len(n)-1])) {
				continue
			}
			checkNoTokens(t, n+letters[i:i+1], 0, api.ErrLexNumber)
			checkNoTokens(t, "(("+n+letters[i:i+1]+"))", 2, api.ErrLexNumber)
		}
	}
	for i := range len(digits) {
		checkNoTokens(t, "1K"+digits[i:i+1], 0, api.ErrLexNumber)
		checkNoTokens(t, "1M"+digits[i:i+1], 0, api.ErrLexNumber)
	}
	checkTokens(t, "1 K", number(1, 0), word("K", 2))
	checkTokens(t, "1#\nK", number(1, 0), word("K", 3))
	checkTokens(t, `1"a"2`, number(1, 0), name("a", 1), number(2, 4))
	checkTokens(t, "-1", mark("-", 0), number(1, 1))
	checkTokens(t, "1-2", number(1, 0), mark("-", 1), number(2, 2))
	checkNoTokens(t, "1.5", 1, api.ErrLexByte)
	checkNoTokens(t, "1\xff", 1, api.ErrLexByte)
	checkNoTokens(t, "1\"", 1, api.ErrLexQuote)
	checkNoTokens(t, "1KM", 0, api.ErrLexNumber)
	checkNoTokens(t, "1MK", 0, api.ErrLexNumber)
	checkNoTokens(t, "1m", 0, api.ErrLexNumber)
	checkNoTokens(t, "0x10", 0, api.ErrLexNumber)
	checkNoTokens(t, "1_000", 0, api.ErrLexNumber)
}

func TestP18_1Names(t *testing.T) {
	for _, text := range []string{
		"", " ", "a", "A.b-c_d@e~f", "a b", "#", "'", `\`, "9", "${}", "${}${}", "${a}", "${a b}", "${ }", "a${i}b", "a${i}${j}b", "${i+1}", "${#}",
		`${\}`, "~${9x!}~", strings.Repeat("a", mostText-2), strings.Repeat("${}", (mostText-2)/3),
	} {
		quoted := `"` + text + `"`
		checkTokens(t, quoted, name(text, 0))
		if len(quoted) < 100 {
			checkTokens(t, "a"+quoted+quoted+"1", word("a", 0), name(text, 1), name(text, 1+len(quoted)), number(1, 1+2*len(quoted)))
		}
	}
}

// Every byte at the first, a middle and the last place, outside of ${ and } and within.
func TestP18_1WhatStandsInAName(t *testing.T) {
	for _, c := range []struct{ ahead, behind string }{
		{"", ""}, {"a", "b"}, {"", "b"}, {"a", ""}, {"${i}", ""}, {"", "${i}"}, {"${i}", "${j}"},
		{"${", "}"}, {"${a", "b}"}, {"${", "b}c"}, {"x${a", "}"}, {"${i}${", "}"}, {"${", "}${i}"},
	} {
		isWithin := strings.Count(c.ahead, "{") > strings.Count(c.ahead, "}")
		for b := range 256 {
			inner := c.ahead + string([]byte{byte(b)}) + c.behind
			at := 1 + len(c.ahead)
			switch {
			case isOfName(b):
				checkTokens(t, `"`+inner+`"`, name(inner, 0))
				checkTokens(t, `;"`+inner+`";`, mark(";", 0), name(inner, 1), mark(";", 3+len(inner)))
			case isWithin && b == '}', !isWithin && b == '"':
				// What comes of these is said by the tests below.
			default:
				checkNoTokens(t, `"`+inner+`"`, at, api.ErrLexQuote)
				checkNoTokens(t, `"`+inner, at, api.ErrLexQuote)
				checkNoTokens(t, `;; "`+inner+`"`, at+3, api.ErrLexQuote)
			}
		}
	}
}

func TestP18_1WhereANameIsRefused(t *testing.T) {
	for _, c := range []struct {
		text string
		at   int
	}{
		{`"$"`, 1}, {`"$$"`, 1}, {`"$${a}"`, 1}, {`"a$"`, 2}, {`"$ {a}"`, 1}, {`"$a{b}"`, 1}, {"\"$\n\"", 1}, {"\"$\xff\"", 1}, {`"$}"`, 1}, {`"${a}$"`, 5},
		{`"{}"`, 1}, {`"{a}"`, 1}, {`"}"`, 1}, {`"${a}}"`, 5}, {`"${}}"`, 4}, {`"${a}{b}"`, 5},
		{`"${{}}"`, 3}, {`"${${a}}"`, 3}, {`"${$a}"`, 3}, {`"${"`, 3}, {`"${""}"`, 3}, {`"${a"b"}"`, 4}, {"\"${\n}\"", 3}, {"\"${a\x7f}\"", 4}, {"\"${é}\"", 3},
		{"\"a\tb\"", 2}, {"\"a\rb\"", 2}, {"\"\x00\"", 1}, {"\"a\x1f\"", 2}, {"\"a\x7f\"", 2}, {"\"\x80\"", 1}, {"\"a\xff\"", 2}, {"\"aé\"", 2},
	} {
		checkNoTokens(t, c.text, c.at, api.ErrLexQuote)
		checkNoTokens(t, "a ; "+c.text, c.at+4, api.ErrLexQuote)
	}
}

// A text that ends at each place within a name: told at its opening quote, but for a $ that stands last.
func TestP18_1ANameThatTheTextEnds(t *testing.T) {
	const whole = `"a-${i+1}.b${}${ x }~"`
	for _, ahead := range []string{"", "a", "# x\n\t", "12 ;", `"x"`} {
		for end := 1; end < len(whole); end++ {
			at := len(ahead)
			if whole[end-1] == '$' {
				at += end - 1
			}
			checkNoTokens(t, ahead+whole[:end], at, api.ErrLexQuote)
		}
	}
	checkTokens(t, whole, name(whole[1:len(whole)-1], 0))
	checkNoTokens(t, whole+`"`, len(whole), api.ErrLexQuote)
	checkNoTokens(t, `"`+strings.Repeat("a", mostText-1), 0, api.ErrLexQuote)
	checkNoTokens(t, `"`+strings.Repeat("a", mostText-2)+"$", mostText-1, api.ErrLexQuote)
	checkNoTokens(t, `"`+strings.Repeat("a", mostText-3)+"${", 0, api.ErrLexQuote)
}

func TestP18_1HowLongATextMayBe(t *testing.T) {
	for _, fill := range []string{" ", "\n", "#", "a", "0"} {
		whole := strings.Repeat(fill, mostText)
		switch fill {
		case "a":
			checkTokens(t, whole, word(whole, 0))
		case "0":
			checkTokens(t, whole, number(0, 0))
		default:
			checkTokens(t, whole)
		}
		checkTokens(t, whole[:mostText-2]+"\n;", slices.Concat(tokensOf(t, whole[:mostText-2]), list(mark(";", mostText-1)))...)
		for _, more := range []string{fill, "!", "\"", "9x", ";", "\x00", strings.Repeat(fill, mostText)} {
			checkNoTokens(t, whole+more, 0, api.ErrLexLong)
			checkNoTokens(t, more+whole, 0, api.ErrLexLong)
		}
	}
	// That it is too long is told ahead of all else.
	for _, bad := range []string{"!", "\"", "9x", "\"$\"", strings.Repeat(";", mostTokens+1)} {
		checkNoTokens(t, bad+strings.Repeat(" ", mostText+1-len(bad)), 0, api.ErrLexLong)
	}
	checkNoTokens(t, "!"+strings.Repeat(" ", mostText-1), 0, api.ErrLexByte)
	checkNoTokens(t, strings.Repeat(" ", mostText-1)+"!", mostText-1, api.ErrLexByte)
	checkNoTokens(t, strings.Repeat(" ", mostText-1)+"\"", mostText-1, api.ErrLexQuote)
}

// tokensOf gives a text's tokens by the model.
func tokensOf(t *testing.T, text string) []api.Token {
	t.Helper()
	ts, _, e := modelled(text)
	if e != api.OK {
		t.Fatalf("the model refuses %q: %d", short(text), e)
	}
	return ts
}

// manyOf gives a text of as many tokens as may be, each of them this one, with what stands between.
func manyOf(token string, between string) string {
	return strings.TrimSuffix(strings.Repeat(token+between, mostTokens), between)
}

func TestP18_1HowManyTokensMayBe(t *testing.T) {
	for _, many := range []string{manyOf(";", ""), manyOf(";", " "), manyOf("a", " "), manyOf("1", ";")[:mostTokens], manyOf(`""`, ""), manyOf("7", "\n"), manyOf("=", "#\n")} {
		want := tokensOf(t, many)
		if len(want) != mostTokens {
			t.Fatalf("%d tokens", len(want))
		}
		checkTokens(t, many, want...)
		for _, tail := range []string{" ", "\n", "\t\r\n", "#", "# !", "#\n", " #a\n#b\n ", "#\"", "# 9x\n"} {
			checkTokens(t, many+tail, want...)
		}
		fewer := want[:mostTokens-1]
		last := want[mostTokens-1].At
		checkTokens(t, many[:last], fewer...)
		// A token that is refused is the last one that may be: so its own error is told, and no other.
		checkNoTokens(t, many[:last]+"!;;", last, api.ErrLexByte)
		checkNoTokens(t, many[:last]+" 9x;;", last+1, api.ErrLexNumber)
		checkNoTokens(t, many[:last]+"\"\n;", last+1, api.ErrLexQuote)
	}
}

// One byte more, whatever it is, that is no blank and in no comment.
func TestP18_1OneByteMoreThanThereMayBeTokens(t *testing.T) {
	many := manyOf(";", "")
	want := tokensOf(t, many)
	for b := range 256 {
		for _, between := range []string{"", " ", "#\n", "# !\"\n\r\t"} {
			text := many + between + string([]byte{byte(b)})
			if isOf(blanks, b) || b == '#' {
				checkTokens(t, text, want...)
			} else {
				checkNoTokens(t, text, len(many)+len(between), api.ErrLexMany)
			}
		}
	}
	for _, tail := range []string{"9x", `"a"`, `"$"`, `"`, "!!", "1048577M", ";;;;", "a b", "é"} {
		checkNoTokens(t, many+tail, mostTokens, api.ErrLexMany)
		checkNoTokens(t, many+"# x\n"+tail, mostTokens+4, api.ErrLexMany)
	}
	// A letter behind a word, a digit behind a number are of that token: they are not one more.
	words := manyOf("a", " ")
	checkTokens(t, words+"b9_", slices.Concat(tokensOf(t, words)[:mostTokens-1], list(word("ab9_", len(words)-1)))...)
	checkNoTokens(t, words+"b-", len(words)+1, api.ErrLexMany)
	numbers := manyOf("1", " ")
	checkTokens(t, numbers+"2K", slices.Concat(tokensOf(t, numbers)[:mostTokens-1], list(number(12288, len(numbers)-1)))...)
	checkNoTokens(t, numbers+"x", len(numbers)-1, api.ErrLexNumber)
	checkNoTokens(t, numbers+"!", len(numbers), api.ErrLexMany)
	checkNoTokens(t, strings.Repeat(";", mostText), mostTokens, api.ErrLexMany)
}

// Where several things are wrong, the first in the text is told.
func TestP18_1WhichErrorIsFirst(t *testing.T) {
	wrong := []struct {
		text string
		at   int
		e    api.Errno
	}{
		{"!", 0, api.ErrLexByte}, {"\x00", 0, api.ErrLexByte}, {"9x", 0, api.ErrLexNumber}, {"1048577M", 0, api.ErrLexNumber}, {"1KK", 0, api.ErrLexNumber},
		{"\"a\n", 2, api.ErrLexQuote}, {`"$a`, 1, api.ErrLexQuote}, {`"${{`, 3, api.ErrLexQuote}, {`"}`, 1, api.ErrLexQuote},
	}
	for _, one := range wrong {
		for _, two := range wrong {
			for _, ahead := range []string{"", "a ;", "#!\n", strings.Repeat("; ", mostTokens-1)} {
				checkNoTokens(t, ahead+one.text+" "+two.text, len(ahead)+one.at, one.e)
				checkNoTokens(t, ahead+one.text+"\n"+strings.Repeat(";", mostTokens+1), len(ahead)+one.at, one.e)
			}
		}
		many := strings.Repeat("; ", mostTokens)
		checkNoTokens(t, many+one.text, len(many), api.ErrLexMany)
	}
}
