package syntax_test

import (
	"fmt"
	"slices"
	"strings"
	"testing"

	"cistern/api"
	"cistern/lex"
	"cistern/syntax"
)

// drawing draws what looks like chance and is the same in each run.
type drawing struct{ seed uint32 }

// below draws from 0 up to and without most.
func (d *drawing) below(most int) int {
	d.seed = d.seed*1664525 + 1013904223
	high := uint64(d.seed >> 8)
	d.seed = d.seed*1664525 + 1013904223
	return int((high<<24 | uint64(d.seed>>8)) % uint64(most))
}

// one draws one of some texts.
func (d *drawing) one(of ...string) string { return of[d.below(len(of))] }

func (d *drawing) word() string {
	return d.one("a", "b", "i", "x9", "_", "Z_z", "sizes", "Let", "o", "thicker", "K", "M", "min_", "_of", strings.Repeat("w", 1+d.below(40)))
}

func (d *drawing) value() int {
	values := []int{0, 1, 2, 9, 10, 1023, 1024, 1 << 20, 1 << 31, mostNumber - 1, mostNumber}
	if d.below(3) == 0 {
		return d.below(mostNumber + 1)
	}
	return values[d.below(len(values))]
}

// run draws a text that can stand in quotes for itself.
func (d *drawing) run() string {
	return d.one(d.word(), d.one(reserved...), "-", "a b", "1", " ", "#", ";", "a.b@c~", "not 1", "(", "1K", "!", "a'", `\`, "''")
}

func (d *drawing) name(depth int, isWithin bool) api.Node {
	if isWithin || d.below(3) == 0 {
		return named(d.word())
	}
	out := name()
	for range d.below(4) {
		isBehindText := len(out.Kids) > 0 && out.Kids[len(out.Kids)-1].Kind == api.NodeText
		if isBehindText || d.below(2) == 0 {
			out.Kids = append(out.Kids, d.number(depth-1, true))
		} else {
			out.Kids = append(out.Kids, text(d.run()))
		}
	}
	return out
}

// number draws one that is at most so deep.
func (d *drawing) number(depth int, isWithin bool) api.Node {
	if depth <= 2 || d.below(4) == 0 {
		switch d.below(5) {
		case 0, 1:
			return number(d.value())
		case 2, 3:
			return word(d.word())
		}
		return node(api.NodeFree)
	}
	switch d.below(8) {
	case 0:
		return node(api.NodeSize, d.name(depth-1, isWithin))
	case 1:
		out := node(api.NodeMin + d.below(2))
		for range 1 + d.below(3) {
			out.Kids = append(out.Kids, d.number(depth-1, isWithin))
		}
		return out
	}
	return node(api.NodeAdd+d.below(5), d.number(depth-1, isWithin), d.number(depth-1, isWithin))
}

func (d *drawing) condition(depth int) api.Node {
	if depth <= 3 || d.below(4) == 0 {
		if d.below(4) == 0 {
			return node(api.NodeExists, d.name(depth-1, false))
		}
		return node(api.NodeLess+d.below(2), d.number(depth-1, false), d.number(depth-1, false))
	}
	if d.below(3) == 0 {
		return node(api.NodeNot, d.condition(depth-1))
	}
	return node(api.NodeAnd+d.below(2), d.condition(depth-1), d.condition(depth-1))
}

func (d *drawing) clause(depth int) api.Node {
	low := depth - 1
	switch d.below(9) {
	case 0:
		return let(d.word(), d.number(low, false))
	case 1:
		out := node(api.NodeVolume, d.name(low, false), d.number(low, false))
		if d.below(2) == 0 {
			out.Kids = append(out.Kids, d.name(low, false))
		}
		out.Number = d.below(2)
		return out
	case 2:
		return node(api.NodeSnap, d.name(low, false))
	case 3:
		return node(api.NodeKeep, d.number(low, false), d.name(low, false))
	case 4:
		return absent(d.name(low, false))
	case 5:
		return node(api.NodeRename, d.name(low, false), d.name(low, false))
	case 6:
		return repeat(d.word(), d.number(low, false), d.number(low, false), d.block(low))
	case 7:
		out := node(api.NodeWhen, d.condition(low), d.block(low))
		if d.below(2) == 0 {
			out.Kids = append(out.Kids, d.block(low))
		}
		return out
	}
	return node(api.NodeExact)
}

func (d *drawing) block(depth int) api.Node {
	out := block()
	if depth > 5 {
		for range d.below(3) {
			out.Kids = append(out.Kids, d.clause(depth-1))
		}
	}
	return out
}

// plan draws a tree that may be, at most so deep (and at least 6).
func (d *drawing) plan(depth int) api.Node {
	out := plan()
	for range d.below(4) {
		out.Kids = append(out.Kids, d.clause(depth-1))
	}
	d.placed(&out)
	return out
}

// placed gives the nodes of a tree some places: they mean nothing.
func (d *drawing) placed(n *api.Node) {
	n.At = d.below(2000) - 1000
	for i := range n.Kids {
		d.placed(&n.Kids[i])
	}
}

// idle draws what may stand between two tokens: at least something, if the tokens would be one without it.
func (d *drawing) idle(hasToBe bool) string {
	switch d.below(7) {
	case 0:
		return "\n"
	case 1:
		return d.one("# x\n", "#\n", " #;}\"${ \xff\x00\n\t", "\r\n# 1 # 2\n")
	case 2:
		return strings.Repeat(d.one(" ", "\t", "\r", "\n"), 1+d.below(5))
	case 3, 4:
		if !hasToBe {
			return ""
		}
	}
	return " "
}

// wouldBeOne tells whether two tokens that stand right beside one another are read as another one.
func wouldBeOne(one string, two string) bool {
	ts, _, e := lex.Tokens([]byte(one + two))
	return e != api.OK || len(ts) != 2
}

// spread draws a text of tokens with other blanks and comments between them.
func (d *drawing) spread(words []string) string {
	out := d.idle(false)
	for i, word := range words {
		out += word
		out += d.idle(i+1 < len(words) && wouldBeOne(word, words[i+1]))
	}
	return out + d.one("", "", "# the end", " ")
}

// words draws the tokens of a tree, or of one with other parentheses, and its numbers in one of the ways to write them.
func (d *drawing) words(n api.Node) []string {
	s := &spelling{}
	s.node(n)
	if isLoose := d.below(3) > 0; isLoose {
		for _, pair := range s.pairs {
			if d.below(4) > 0 {
				s.words[pair[0]], s.words[pair[1]] = "", ""
			}
		}
	}
	for i, word := range s.words {
		switch {
		case word == "1024" && d.below(2) == 0:
			s.words[i] = d.one("1K", "0001K", "01024")
		case word == "1048576" && d.below(2) == 0:
			s.words[i] = d.one("1M", "1024K", "001048576")
		}
	}
	return slices.DeleteFunc(s.words, func(word string) bool { return word == "" })
}

// spoiltWords draws tokens of which some are struck, doubled, put in or changed.
func (d *drawing) spoiltWords(words []string) []string {
	out := slices.Clone(words)
	for range 1 + d.below(2) {
		at := d.below(len(out) + 1)
		end := min(at+d.below(2), len(out))
		var with []string
		switch d.below(4) {
		case 0:
			with = []string{d.one(reserved...)}
		case 1:
			with = []string{d.one(strings.Split(";{}(),=<+-*/%", "")...)}
		case 2:
			with = []string{d.one("a", "1", `"a"`, `"${1}"`, `"${1<2}"`, `"${1 2}"`, `"${}"`, `"${0x}b"`, "9x", "(", "1 < 2", "exists(a)")}
		case 3:
			with = slices.Repeat(out[at:end], d.below(3))
		}
		out = slices.Concat(out[:at], with, out[end:])
	}
	return out
}

// spoiltText draws a text of which some bytes are changed, put in or taken out.
func (d *drawing) spoiltText(text string) string {
	for range 1 + d.below(3) {
		at := d.below(len(text) + 1)
		with := d.one("", "", " ", `"`, "$", "{", "}", "${", "(", ")", "1", "a", ";", "<", "=", "+", ",", "\n", "#", "!", "\xff")
		text = text[:at] + with + text[min(at+d.below(2), len(text)):]
	}
	return text
}

// text draws one that is a plan's, or nearly.
func (d *drawing) text() string {
	words := d.words(d.plan(6 + d.below(5)))
	switch d.below(6) {
	case 0:
		return d.spread(words)
	case 1:
		return d.spoiltText(d.spread(words))
	}
	return d.spread(d.spoiltWords(words))
}

// spoiltTree draws a tree of which a node somewhere is another one; it may still be.
func (d *drawing) spoiltTree(n api.Node) api.Node {
	if len(n.Kids) > 0 && d.below(5) > 0 {
		kids := slices.Clone(n.Kids)
		at := d.below(len(kids))
		kids[at] = d.spoiltTree(kids[at])
		n.Kids = kids
		return n
	}
	numbers := []int{-1 << 63, -1, 0, 1, 2, mostNumber, mostNumber + 1, 1<<63 - 1}
	switch d.below(7) {
	case 0:
		n.Kind = d.below(40) - 1
	case 1:
		n.Text = d.one("", d.word(), d.run(), d.one(reserved...), "$", "\"", "{", "}", "\x1f", "\x7f", "\xff", "a\n", "1a", "${1}")
	case 2:
		n.Number = numbers[d.below(len(numbers))]
	case 3:
		n.Kids = append(slices.Clone(n.Kids), d.any())
	case 4:
		n.Kids = slices.Clone(n.Kids[:max(len(n.Kids)-1, 0)])
	case 5:
		n.Kids = slices.Clone(n.Kids)
		slices.Reverse(n.Kids)
	case 6:
		n = d.any()
	}
	return n
}

// any draws a node of some kind.
func (d *drawing) any() api.Node {
	switch d.below(8) {
	case 0:
		return d.clause(7)
	case 1:
		return d.block(7)
	case 2:
		return d.name(4, false)
	case 3:
		return text(d.run())
	case 4:
		return d.condition(4)
	case 5:
		return d.plan(6)
	}
	return d.number(4, false)
}

func TestP19_1AgainstTheGrammar(t *testing.T) {
	d := &drawing{seed: 1}
	met := map[api.Errno]int{}
	for range 5000 {
		text := d.text()
		n, at, e := modelled(text)
		met[e]++
		if got, want := told(syntax.Parse([]byte(text))), told(n, at, e); got != want {
			t.Fatalf("Parse(%q) = %s; want %s", text, got, want)
		}
	}
	for _, e := range []api.Errno{api.OK, api.ErrSyntaxToken, api.ErrSyntaxEnd, api.ErrLexByte, api.ErrLexNumber, api.ErrLexQuote} {
		if met[e] < 20 {
			t.Errorf("%d texts came to %d", met[e], e)
		}
	}
	if met[api.OK] < 1000 || met[api.ErrSyntaxToken] < 1000 {
		t.Errorf("%d texts were taken, %d refused", met[api.OK], met[api.ErrSyntaxToken])
	}
}

// All texts of few tokens, out of some that are told apart, in the places of numbers and of conditions.
func TestP19_1AllShortTexts(t *testing.T) {
	some := []string{"a", "1", "not", "or", "<", "+", "*", "(", ")", "min", "exists", ",", `"${1}"`}
	var all func(ahead string, tail string, more int)
	all = func(ahead string, tail string, more int) {
		text := ahead + tail
		n, at, e := modelled(text)
		if got, want := told(syntax.Parse([]byte(text))), told(n, at, e); got != want {
			t.Fatalf("Parse(%q) = %s; want %s", text, got, want)
		}
		for _, word := range some {
			if more > 0 {
				all(ahead+word+" ", tail, more-1)
			}
		}
	}
	all("let x = ", ";", 4)
	all("when ", "{}", 3)
	all("when 1 < 2 or ", "{}", 3)
	all("let x = ", "", 2)
	all("when not exists ( ", "", 2)
}

func TestP19_2AgainstTheGrammar(t *testing.T) {
	d := &drawing{seed: 2}
	for range 800 {
		n := d.plan(6 + d.below(5))
		checkPrint(t, n, leastText(n))
		if t.Failed() {
			t.FailNow()
		}
	}
}

func TestP19_3AgainstTheGrammar(t *testing.T) {
	d := &drawing{seed: 3}
	met := map[api.Errno]int{}
	for range 8000 {
		n := d.spoiltTree(d.plan(6 + d.below(4)))
		want := modelledValid(n)
		met[want]++
		checkValid(t, n, want)
		if t.Failed() {
			t.FailNow()
		}
	}
	if met[api.OK] < 1000 || met[api.ErrSyntaxTree] < 1000 {
		t.Errorf("%d trees were taken, %d refused", met[api.OK], met[api.ErrSyntaxTree])
	}
}

// deepPlan draws a tree whose drawn part lies so deep that some of it is at the last depth or below.
func (d *drawing) deepPlan() api.Node {
	inner := d.clause(6 + d.below(3))
	depth := mostDepth - 6 + d.below(6)
	for at := depth; at > 3; at -= 2 {
		inner = repeat("i", number(0), number(0), block(inner))
	}
	return plan(inner)
}

func TestP19_3DeepAgainstTheGrammar(t *testing.T) {
	d := &drawing{seed: 4}
	met := map[api.Errno]int{}
	for range 3000 {
		n := d.deepPlan()
		if d.below(3) > 0 {
			n = d.spoiltDeep(n, 1)
		}
		want := modelledValid(n)
		met[want]++
		checkValid(t, n, want)
		if t.Failed() {
			t.FailNow()
		}
	}
	for _, e := range []api.Errno{api.OK, api.ErrSyntaxTree, api.ErrSyntaxDeep} {
		if met[e] < 300 {
			t.Errorf("%d trees came to %d", met[e], e)
		}
	}
}

// spoiltDeep spoils a node that lies near the last depth, or below.
func (d *drawing) spoiltDeep(n api.Node, depth int) api.Node {
	if len(n.Kids) == 0 || depth > mostDepth-3 && d.below(4) == 0 {
		return d.spoiltTree(n)
	}
	kids := slices.Clone(n.Kids)
	at := d.below(len(kids))
	if depth < mostDepth-8 {
		at = len(kids) - 1
	}
	kids[at] = d.spoiltDeep(kids[at], depth+1)
	n.Kids = kids
	return n
}

// What is drawn as a tree that may be is one, of every kind.
func TestP19WhatIsDrawnMayBe(t *testing.T) {
	d := &drawing{seed: 5}
	kinds := map[int]int{}
	var count func(n api.Node)
	count = func(n api.Node) {
		kinds[n.Kind]++
		for _, kid := range n.Kids {
			count(kid)
		}
	}
	for range 1000 {
		n := d.plan(6 + d.below(6))
		count(n)
		if e := modelledValid(n); e != api.OK {
			t.Fatalf("%s may not be: %d", meant(n), e)
		}
	}
	for kind, word := range kindNames {
		if kinds[kind] < 50 {
			t.Errorf("%d nodes of the kind %s are drawn", kinds[kind], fmt.Sprint(word))
		}
	}
}
