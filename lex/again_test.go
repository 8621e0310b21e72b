package lex_test

import (
	"bytes"
	"slices"
	"strings"
	"testing"

	"cistern/api"
	"cistern/lex"
)

// placeless gives tokens without their places.
func placeless(ts []api.Token) []api.Token {
	out := slices.Clone(ts)
	for i := range out {
		out[i].At = 0
	}
	return out
}

// checkAgain holds that tokens which are written are cut into the same ones; each place is where the token's text is found.
func checkAgain(t *testing.T, ts []api.Token) {
	t.Helper()
	text, e := lex.Untoken(ts)
	if e != api.OK {
		t.Fatalf("Untoken(%s) = %d", told(ts), e)
	}
	again, at, e := lex.Tokens([]byte(text))
	if e != api.OK || at != 0 || !slices.Equal(placeless(again), placeless(ts)) {
		t.Fatalf("Tokens(%q) = %s, %d, %d; want %s", short(text), told(again), at, e, told(ts))
	}
	place := 0
	for _, token := range again {
		if token.At != place {
			t.Fatalf("Tokens(%q): %+v stands at %d", short(text), token, place)
		}
		own, _ := unmodelled(list(token))
		place += len(own) + 1
	}
}

func TestP18_3WhatIsWrittenIsCutAgain(t *testing.T) {
	d := &drawing{seed: 11}
	for range 5000 {
		checkAgain(t, d.tokens(20))
	}
	for _, token := range list(word("a", 0), mark(";", 0), number(7, 0), name("", 0), number(123, 0)) {
		checkAgain(t, slices.Repeat(list(token), mostTokens))
	}
	checkAgain(t, list(word(strings.Repeat("a", mostText), 0)))
	checkAgain(t, list(name(strings.Repeat("a", mostText-2), 0)))
	checkAgain(t, nil)
}

// Every token beside every other: what stands behind one does not make it another.
func TestP18_3EachBesideEach(t *testing.T) {
	some := list(word("a", 0), word("K", 0), word("M1", 0), word("_", 0), number(0, 0), number(12, 0), number(mostNumber, 0), name("", 0), name("a", 0), name("${}", 0), name("#", 0))
	for _, m := range strings.Split(marks, "") {
		some = append(some, mark(m, 0))
	}
	for _, one := range some {
		for _, two := range some {
			checkAgain(t, list(one, two))
			checkAgain(t, list(one, two, one))
		}
	}
}

// What may be is just what Tokens gives: a list that is taken is the tokens of some text, and one that is refused of none.
func TestP18_3NothingElseIsTaken(t *testing.T) {
	d := &drawing{seed: 12}
	taken := 0
	for range 30000 {
		token := d.spoilt()
		if _, e := lex.Untoken(list(token)); e == api.OK {
			taken++
			checkAgain(t, list(token))
		}
	}
	if taken < 3000 || taken > 27000 {
		t.Errorf("%d of 30000 were taken", taken)
	}
}

// checkWritten holds that what Tokens gives is refused by nothing but ErrLexLong.
func checkWritten(t *testing.T, text string) api.Errno {
	t.Helper()
	ts, _, e := lex.Tokens([]byte(text))
	if e != api.OK {
		return e
	}
	again, e := lex.Untoken(ts)
	want, wanted := unmodelled(ts)
	if again != want || e != wanted || e != api.OK && e != api.ErrLexLong {
		t.Fatalf("Untoken of the tokens of %q = %q, %d; want %q, %d", short(text), short(again), e, short(want), wanted)
	}
	if e == api.OK {
		checkAgain(t, ts)
	}
	return e
}

func TestP18_3WhatIsCutIsWritten(t *testing.T) {
	d := &drawing{seed: 13}
	met := map[api.Errno]int{}
	for range 10000 {
		met[checkWritten(t, d.text(6))]++
		met[checkWritten(t, d.spoiltText(6))]++
	}
	if met[api.OK] < 3000 {
		t.Errorf("%d texts were taken", met[api.OK])
	}
}

// A text may have more bytes when it is written with its blanks and without K and M.
func TestP18_3WhatIsLongerThanItWas(t *testing.T) {
	for _, c := range []struct {
		text string
		want api.Errno
	}{
		{manyOf("1", ";")[:mostTokens], api.OK},
		{manyOf("1K", " "), api.ErrLexLong},
		{manyOf("1M", " "), api.ErrLexLong},
		{manyOf("123", " "), api.OK},
		{"-" + manyOf("123", " ")[3:], api.OK},
		{strings.Repeat("1;;", 5461) + "1", api.OK},
		{strings.Repeat("1M;", 8192), api.ErrLexLong},
		{strings.Repeat("a;", 8192) + strings.Repeat(" ", 1000), api.OK},
		{strings.Repeat("a", mostText-1) + ";", api.ErrLexLong},
		{strings.Repeat("a", mostText-2) + ";", api.OK},
		{strings.Repeat("0", mostText), api.OK},
		{`""` + strings.Repeat("a", mostText-2), api.ErrLexLong},
		{strings.Repeat("#\n", mostText/2), api.OK},
	} {
		if got := checkWritten(t, c.text); got != c.want {
			t.Errorf("Untoken of the tokens of %q = %d; want %d", short(c.text), got, c.want)
		}
	}
}

// long draws texts near the bounds.
func (d *drawing) long() string {
	var out strings.Builder
	for out.Len() < mostText-3000 {
		out.WriteString(d.text(40))
		if d.below(2) == 0 {
			out.WriteString(strings.Repeat(d.of(marks, 1), d.below(600)))
		}
	}
	return out.String()
}

func TestP18_3LongTexts(t *testing.T) {
	d := &drawing{seed: 14}
	for range 60 {
		text := d.long()
		checkModelled(t, text)
		checkWritten(t, text)
	}
}

func TestR2NothingBesideAnError(t *testing.T) {
	const ahead = "volume a size 2K; "
	for _, tail := range []string{"!", "9x", "\"", "\"$\"", strings.Repeat(";", mostTokens), strings.Repeat(" ", mostText)} {
		if ts, _, e := lex.Tokens([]byte(ahead + tail)); len(ts) != 0 || e == api.OK {
			t.Errorf("Tokens = %d tokens, %d", len(ts), e)
		}
	}
	for _, bad := range refusals() {
		if text, e := lex.Untoken(list(word("a", 0), mark(";", 0), bad)); text != "" || e == api.OK {
			t.Errorf("Untoken = %q, %d", text, e)
		}
	}
	if text, e := lex.Untoken(list(mark(";", 0), word(strings.Repeat("a", mostText), 0))); text != "" || e == api.OK {
		t.Errorf("Untoken = %d bytes, %d", len(text), e)
	}
}

func TestR1NoneAndEmpty(t *testing.T) {
	for _, text := range [][]byte{nil, {}, make([]byte, 0, 5)} {
		if ts, at, e := lex.Tokens(text); len(ts) != 0 || at != 0 || e != api.OK {
			t.Errorf("Tokens of nothing = %s, %d, %d", told(ts), at, e)
		}
	}
	for _, ts := range [][]api.Token{nil, {}, make([]api.Token, 0, 5)} {
		checkUntoken(t, ts, "")
	}
}

const sample = "volume \"a-${i+1}\" size 007K; # x\n\tkeep 3 of _b9 {} 1M - ;"

func sampleTokens() []api.Token {
	return list(word("volume", 0), name("a-${i+1}", 7), word("size", 18), number(7168, 23), mark(";", 27), word("keep", 34), number(3, 39),
		word("of", 41), word("_b9", 44), mark("{", 48), mark("}", 49), number(1048576, 51), mark("-", 54), mark(";", 56))
}

func TestR4WhatIsHandedInStays(t *testing.T) {
	for _, tail := range []string{"", " !", " 9x", " \"", " \"$\""} {
		text := append(make([]byte, 0, 300), sample+tail...)
		copy(text[len(text):300], bytes.Repeat([]byte{';'}, 300))
		before := bytes.Clone(text[:300])
		lex.Tokens(text)
		lex.Tokens(text[:5])
		if !bytes.Equal(text[:300], before) {
			t.Errorf("Tokens has changed what it was handed")
		}
	}
	for _, last := range list(mark(";", 0), word("1", 0), word(strings.Repeat("a", mostText), 0)) {
		ts := append(make([]api.Token, 0, 60), sampleTokens()...)
		ts = append(ts, last)
		for i := len(ts); i < 60; i++ {
			ts[:60][i] = word("spare", i)
		}
		before := slices.Clone(ts[:60])
		lex.Untoken(ts)
		lex.Untoken(ts[:3])
		if !slices.Equal(ts[:60], before) {
			t.Errorf("Untoken has changed what it was handed")
		}
	}
}

// What stands behind a text's end, in its spare room, is no part of it.
func TestR4SpareRoomIsNotRead(t *testing.T) {
	for _, whole := range []string{"ab", "12", "1K", "\"\"", "a#b", "\"${a}\""} {
		for end := range len(whole) {
			text := []byte(whole)[:end]
			ts, at, e := lex.Tokens(text)
			want, wantAt, wanted := lex.Tokens(slices.Clip(bytes.Clone(text)))
			if !slices.Equal(ts, want) || at != wantAt || e != wanted {
				t.Errorf("Tokens(%q) = %s, %d, %d with spare room; %s, %d, %d without", text, told(ts), at, e, told(want), wantAt, wanted)
			}
		}
	}
}

func TestR4WhatIsHandedInIsNotKept(t *testing.T) {
	text := []byte(sample)
	ts, _, _ := lex.Tokens(text)
	for i := range text {
		text[i] = '!'
	}
	if !slices.Equal(ts, sampleTokens()) {
		t.Errorf("tokens are changed by what becomes of their text: %s", told(ts))
	}
	checkNoTokens(t, string(text), 0, api.ErrLexByte)
	written, _ := lex.Untoken(ts)
	want := strings.Clone(written)
	clear(ts)
	if written != want {
		t.Errorf("a text is changed by what becomes of the tokens: %q", written)
	}
}

func TestR4WhatIsHandedOutIsNew(t *testing.T) {
	text := []byte(sample)
	one, _, _ := lex.Tokens(text)
	two, _, _ := lex.Tokens(text)
	for i := range one[:cap(one)] {
		one[:cap(one)][i] = word("spoilt", i)
	}
	_ = append(one[:0], word("spoilt", 0))
	three, _, _ := lex.Tokens(text)
	if !slices.Equal(two, sampleTokens()) || !slices.Equal(three, sampleTokens()) || string(text) != sample {
		t.Errorf("Tokens hands out the same list twice")
	}
	checkUntoken(t, three, `volume "a-${i+1}" size 7168 ; keep 3 of _b9 { } 1048576 - ;`)
}

// The calls keep nothing: what was asked between makes no difference.
func TestR5AskedTwice(t *testing.T) {
	d := &drawing{seed: 15}
	for range 300 {
		text := d.spoiltText(6)
		one, at, e := lex.Tokens([]byte(text))
		lex.Tokens([]byte(d.spoiltText(6)))
		lex.Tokens([]byte(d.of("\"${1", 5)))
		written, e2 := lex.Untoken(one)
		lex.Untoken(list(d.spoilt()))
		two, at2, e3 := lex.Tokens([]byte(text))
		again, e4 := lex.Untoken(two)
		if !slices.Equal(one, two) || at != at2 || e != e3 || written != again || e2 != e4 {
			t.Fatalf("asked twice, %q comes to something else", text)
		}
	}
}
