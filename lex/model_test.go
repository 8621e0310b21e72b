package lex_test

import (
	"fmt"
	"math/big"
	"regexp"
	"strings"
	"testing"

	"cistern/api"
	"cistern/lex"
)

// The model cuts a text by patterns: each is the longest that stands at a place.
var (
	idlePattern   = regexp.MustCompile(`^(?:[ \t\n\r]|#[^\n]*)*`)
	wordPattern   = regexp.MustCompile(`^[A-Za-z_][A-Za-z_0-9]*`)
	numberPattern = regexp.MustCompile(`^([0-9]+)([KM]?)([A-Za-z_0-9]?)`)
	namePattern   = regexp.MustCompile(`^"((?:[ !#%-z|~]|\$\{[ !#%-z|~]*\})*)(\$\{[ !#%-z|~]*)?`)
	markPattern   = regexp.MustCompile(`^[;{}(),=<+*/%-]`)
	wholeName     = regexp.MustCompile(`^(?:[ !#%-z|~]|\$\{[ !#%-z|~]*\})*$`)
)

// modelled gives what Tokens should answer.
func modelled(text string) ([]api.Token, int, api.Errno) {
	if len(text) > mostText {
		return nil, 0, api.ErrLexLong
	}
	var ts []api.Token
	at := 0
	for {
		at += len(idlePattern.FindString(text[at:]))
		if at == len(text) {
			return ts, 0, api.OK
		}
		if len(ts) == mostTokens {
			return nil, at, api.ErrLexMany
		}
		token, size, e := modelledToken(text[at:])
		if e != api.OK {
			return nil, at + size, e
		}
		token.At = at
		ts = append(ts, token)
		at += size
	}
}

// modelledToken gives the token with which a text begins and how many bytes it has, or how far away the fault is.
func modelledToken(text string) (api.Token, int, api.Errno) {
	if w := wordPattern.FindString(text); w != "" {
		return word(w, 0), len(w), api.OK
	}
	if m := markPattern.FindString(text); m != "" {
		return mark(m, 0), 1, api.OK
	}
	if n := numberPattern.FindStringSubmatch(text); n != nil {
		value, _ := new(big.Int).SetString(n[1], 10)
		value.Mul(value, map[string]*big.Int{"": big.NewInt(1), "K": big.NewInt(1024), "M": big.NewInt(1048576)}[n[2]])
		if n[3] != "" || value.Cmp(big.NewInt(mostNumber)) > 0 {
			return api.Token{}, 0, api.ErrLexNumber
		}
		return number(int(value.Int64()), 0), len(n[0]), api.OK
	}
	n := namePattern.FindStringSubmatch(text)
	switch {
	case n == nil:
		return api.Token{}, 0, api.ErrLexByte
	case len(n[0]) == len(text):
		return api.Token{}, 0, api.ErrLexQuote
	case n[2] != "" || text[len(n[0])] != '"':
		return api.Token{}, len(n[0]), api.ErrLexQuote
	}
	return name(n[1], 0), len(n[0]) + 1, api.OK
}

// tokenMayBe says of each kind for itself which tokens may be.
func tokenMayBe(t api.Token) bool {
	switch t.Kind {
	case 1:
		return t.Number == 0 && t.Text != "" && wordPattern.FindString(t.Text) == t.Text
	case 2:
		return t.Number == 0 && wholeName.MatchString(t.Text)
	case 3:
		return t.Text == "" && t.Number >= 0 && t.Number <= mostNumber
	case 4:
		return t.Number == 0 && len(t.Text) == 1 && strings.Contains(marks, t.Text)
	}
	return false
}

// unmodelled gives what Untoken should answer.
func unmodelled(ts []api.Token) (string, api.Errno) {
	if len(ts) > mostTokens {
		return "", api.ErrLexMany
	}
	var texts []string
	for _, t := range ts {
		if !tokenMayBe(t) {
			return "", api.ErrLexToken
		}
		texts = append(texts, map[int]string{1: t.Text, 2: `"` + t.Text + `"`, 3: fmt.Sprint(t.Number), 4: t.Text}[t.Kind])
	}
	text := strings.Join(texts, " ")
	if len(text) > mostText {
		return "", api.ErrLexLong
	}
	return text, api.OK
}

// drawing draws what looks like chance and is the same in each run.
type drawing struct{ seed uint32 }

// below draws from 0 up to and without most.
func (d *drawing) below(most int) int {
	d.seed = d.seed*1664525 + 1013904223
	high := uint64(d.seed >> 8)
	d.seed = d.seed*1664525 + 1013904223
	return int((high<<24 | uint64(d.seed>>8)) % uint64(most))
}

// of draws so many of some bytes.
func (d *drawing) of(bytes string, count int) string {
	out := make([]byte, count)
	for i := range out {
		out[i] = bytes[d.below(len(bytes))]
	}
	return string(out)
}

// length draws how long a piece is: short, as a rule.
func (d *drawing) length() int {
	if d.below(30) == 0 {
		return d.below(400)
	}
	return d.below(6)
}

func (d *drawing) inName() string {
	const plain = " !#%&'()*+,-./0189:;<=>?@AZ[\\]^_`az|~"
	out := ""
	for range d.below(4) {
		out += d.of(plain, d.length())
		if d.below(2) == 0 {
			out += "${" + d.of(plain, d.length()) + "}"
		}
	}
	return out
}

func (d *drawing) value() int {
	edges := []int{0, 1, 9, 10, 1023, 1024, 1 << 20, 1<<31 - 1, 1 << 31, 1 << 32, mostNumber - 1, mostNumber}
	switch d.below(3) {
	case 0:
		return edges[d.below(len(edges))]
	case 1:
		return d.below(1000)
	}
	return d.below(mostNumber + 1)
}

// token draws one that may be.
func (d *drawing) token() api.Token {
	at := d.below(200) - 100
	switch d.below(4) {
	case 0:
		return word(d.of(letters, 1)+d.of(letters+digits, d.length()), at)
	case 1:
		return name(d.inName(), at)
	case 2:
		return number(d.value(), at)
	}
	return mark(d.of(marks, 1), at)
}

func (d *drawing) tokens(most int) []api.Token {
	var ts []api.Token
	for range d.below(most + 1) {
		ts = append(ts, d.token())
	}
	return ts
}

// spoilt draws a token that has another field in one place; it may still be.
func (d *drawing) spoilt() api.Token {
	numbers := []int{-1 << 63, -mostNumber, -1, 0, 1, mostNumber, mostNumber + 1, 1<<63 - 1}
	t := d.token()
	switch d.below(5) {
	case 0:
		t.Kind = d.below(8) - 2
	case 1:
		t.Number = numbers[d.below(len(numbers))]
	case 2:
		t.Text = d.of(everyByteBut(0)+letters+letters+held+held+marks, d.below(5))
	case 3:
		at := d.below(len(t.Text) + 1)
		t.Text = t.Text[:at] + d.of(everyByteBut(0)+held+held+blanks, 1) + t.Text[at:]
	case 4:
		at := d.below(len(t.Text) + 1)
		t.Text = t.Text[:at] + t.Text[min(at+1, len(t.Text)):]
	}
	return t
}

// idle draws what may stand between tokens.
func (d *drawing) idle() string {
	switch d.below(6) {
	case 0:
		return ""
	case 1:
		return "#" + d.of(everyByteBut('\n'), d.length()) + "\n"
	case 2:
		return d.of(blanks, d.length()) + "#" + d.of(marks+letters+"\"$", d.length()) + "\n" + d.of(blanks, d.length())
	}
	return d.of(blanks, 1+d.length())
}

// piece draws the text of a token in one of the ways in which it may be written.
func (d *drawing) piece() string {
	t := d.token()
	switch t.Kind {
	case api.TokenName:
		return `"` + t.Text + `"`
	case api.TokenNumber:
		text := strings.Repeat("0", d.below(3)*d.below(15)) + fmt.Sprint(t.Number)
		switch {
		case t.Number <= 1<<20:
			return text + []string{"", "K", "M"}[d.below(3)]
		case t.Number <= 1<<30:
			return text + []string{"", "K"}[d.below(2)]
		}
		return text
	}
	return t.Text
}

// text draws a text whose tokens may stand right beside one another; so it may be refused.
func (d *drawing) text(most int) string {
	out := d.idle()
	for range d.below(most + 1) {
		out += d.piece() + d.idle()
	}
	return out
}

// spoiltText draws a text with some bytes that are changed, put in or taken out.
func (d *drawing) spoiltText(most int) string {
	out := d.text(most)
	for range d.below(4) {
		at := d.below(len(out) + 1)
		with := d.of(everyByteBut(0)+held+held+held+digits+"KM_#\n", d.below(2))
		out = out[:at] + with + out[min(at+d.below(2), len(out)):]
	}
	return out
}

// checkModelled holds Tokens against the model, and tells what it answered.
func checkModelled(t *testing.T, text string) ([]api.Token, api.Errno) {
	t.Helper()
	want, at, e := modelled(text)
	if e != api.OK {
		checkNoTokens(t, text, at, e)
		return nil, e
	}
	checkTokens(t, text, want...)
	return want, e
}

func TestP18_1AgainstTheModel(t *testing.T) {
	d := &drawing{seed: 1}
	met := map[api.Errno]int{}
	for range 20000 {
		text := d.spoiltText(8)
		if d.below(3) == 0 {
			text = d.of(letters+digits+marks+blanks+held+held+"KM#!\x00\xff", d.below(12))
		}
		_, e := checkModelled(t, text)
		met[e]++
		if t.Failed() {
			t.FailNow()
		}
	}
	for _, e := range []api.Errno{api.OK, api.ErrLexByte, api.ErrLexNumber, api.ErrLexQuote} {
		if met[e] < 1000 {
			t.Errorf("%d texts came to %d", met[e], e)
		}
	}
}

// All texts of few bytes, out of those that are told apart.
func TestP18_1AllShortTexts(t *testing.T) {
	const told = "a0K \n#\"${};!\x80"
	var all func(text string, more int)
	all = func(text string, more int) {
		checkModelled(t, text)
		if t.Failed() {
			t.FailNow()
		}
		for i := range len(told) {
			if more > 0 {
				all(text+told[i:i+1], more-1)
			}
		}
	}
	all("", 4)
	all(`"`, 4)
	all(`"${`, 3)
}

func TestP18_2AgainstTheModel(t *testing.T) {
	d := &drawing{seed: 2}
	met := map[api.Errno]int{}
	for range 20000 {
		ts := d.tokens(5)
		if d.below(2) == 0 {
			ts = append(ts, d.spoilt())
		}
		ts = append(ts, d.tokens(2)...)
		want, e := unmodelled(ts)
		met[e]++
		if e != api.OK {
			checkNoUntoken(t, ts, e)
		} else {
			checkUntoken(t, ts, want)
		}
	}
	if met[api.OK] < 1000 || met[api.ErrLexToken] < 1000 {
		t.Errorf("%d lists were taken, %d refused", met[api.OK], met[api.ErrLexToken])
	}
}

// The model is not to be wrong where all that is drawn may be.
func TestP18WhatIsDrawnMayBe(t *testing.T) {
	d := &drawing{seed: 3}
	kinds := map[int]int{}
	for range 5000 {
		token := d.token()
		kinds[token.Kind]++
		if _, e := lex.Untoken(list(token)); e != api.OK || !tokenMayBe(token) {
			t.Fatalf("%+v may not be: %d", token, e)
		}
	}
	if len(kinds) != 4 {
		t.Errorf("%d kinds are drawn; want 4", len(kinds))
	}
}
