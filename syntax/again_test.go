package syntax_test

import (
	"bytes"
	"slices"
	"strings"
	"testing"

	"cistern/api"
	"cistern/syntax"
)

// checkAgain holds that a tree which may be is printed, and that what is printed is read as that tree.
func checkAgain(t *testing.T, n api.Node) {
	t.Helper()
	text, e := syntax.Print(n)
	if e != api.OK {
		t.Fatalf("Print(%s) = %d", short(meant(n)), e)
	}
	again, at, e := syntax.Parse([]byte(text))
	if meant(again) != meant(n) || at != 0 || e != api.OK {
		t.Fatalf("Parse(%s) = %s; want %s", short(text), short(told(again, at, e)), short(meant(n)))
	}
	if twice, e := syntax.Print(again); twice != text || e != api.OK {
		t.Fatalf("Print of what is read of %s = %s, %d", short(text), short(twice), e)
	}
}

func TestP19_4WhatIsPrintedIsReadAgain(t *testing.T) {
	d := &drawing{seed: 11}
	for range 3000 {
		checkAgain(t, d.plan(6+d.below(7)))
	}
	for range 300 {
		n := d.deepPlan()
		if syntax.Valid(n) == api.OK {
			checkAgain(t, n)
		}
	}
}

// T5: any bytes come to a tree that may be and is printed and read again, or to an error with a place that the text has.
func TestP19_4WhatIsReadMayBe(t *testing.T) {
	d := &drawing{seed: 12}
	met := map[api.Errno]int{}
	check := func(text string) {
		n, at, e := syntax.Parse([]byte(text))
		met[e]++
		switch {
		case e != api.OK:
			if !isZero(n) || at < 0 || at > len(text) || at == len(text) && e != api.ErrSyntaxEnd {
				t.Fatalf("Parse(%q) = %s", text, told(n, at, e))
			}
		case at != 0 || syntax.Valid(n) != api.OK:
			t.Fatalf("Parse(%q) = %s; it may not be", text, told(n, at, e))
		default:
			checkAgain(t, n)
		}
	}
	for range 10000 {
		check(d.text())
	}
	all := append(tokens(), " ", "\n", "# x\n", "\x00", "\xff", "${", `"`, "$", "1 < 2", "exists(a)", "exact;", "let x =", "when 1 < 2 {", `absent "`)
	for range 20000 {
		text := ""
		for range d.below(12) {
			text += d.one(all...) + d.one("", " ")
		}
		check(text)
	}
	for range 5000 {
		some := make([]byte, d.below(20))
		for i := range some {
			some[i] = byte(d.below(256))
		}
		check(string(some))
	}
	for _, e := range []api.Errno{api.OK, api.ErrSyntaxToken, api.ErrSyntaxEnd, api.ErrLexByte, api.ErrLexNumber, api.ErrLexQuote} {
		if met[e] < 100 {
			t.Errorf("%d texts came to %d", met[e], e)
		}
	}
}

// T5 over texts near the bounds.
func TestP19_4LongTexts(t *testing.T) {
	d := &drawing{seed: 13}
	for range 20 {
		text := ""
		for len(text) < mostText*3/4 && strings.Count(text, " ") < mostTokens*3/4 {
			text += spelled(d.plan(6+d.below(3))) + " "
		}
		n, at, e := syntax.Parse([]byte(text))
		if e != api.OK {
			t.Fatalf("Parse(%s) = %d, %d", short(text), at, e)
		}
		checkAgain(t, n)
	}
}

// What is refused by Valid is printed by nothing; what is taken is read again, also where it was spoilt.
func TestP19_4NothingElseIsTaken(t *testing.T) {
	d := &drawing{seed: 14}
	taken := 0
	for range 10000 {
		n := d.spoiltTree(d.plan(6 + d.below(4)))
		if e := syntax.Valid(n); e == api.OK {
			taken++
			checkAgain(t, n)
		} else {
			checkNoPrint(t, n, e)
		}
	}
	if taken < 1000 || taken > 9000 {
		t.Errorf("%d of 10000 were taken", taken)
	}
}

// Other blanks and comments between tokens turn nothing but places: of what is taken, and of what is refused the token.
func TestP19_4BlanksAndComments(t *testing.T) {
	d := &drawing{seed: 15}
	taken := 0
	for range 1500 {
		words := d.words(d.plan(6 + d.below(4)))
		if d.below(2) == 0 {
			words = d.spoiltWords(words)
		}
		plain := strings.Join(words, " ")
		want, wantAt, wantE := syntax.Parse([]byte(plain))
		for range 3 {
			text := d.spread(words)
			n, at, e := syntax.Parse([]byte(text))
			if e != wantE || meant(n) != meant(want) {
				t.Fatalf("Parse(%q) = %s; want %s", text, told(n, at, e), told(want, wantAt, wantE))
			}
			if e == api.ErrSyntaxEnd && wantAt == len(plain) {
				if at != len(text) {
					t.Fatalf("Parse(%q) = %d, %d", text, at, e)
				}
			} else if e != api.OK && text[at] != plain[wantAt] {
				t.Fatalf("Parse(%q) = %d, %d; want %d in %q", text, at, e, wantAt, plain)
			}
		}
		if wantE == api.OK {
			taken++
		}
	}
	if taken < 300 || taken > 1200 {
		t.Errorf("%d of 1500 were taken", taken)
	}
	checkParse(t, "exact#;\n;# exact\n", "plan@0(exact@0)")
	checkParse(t, "\r\n\texact\t;\r\n", "plan@0(exact@3)")
}

func TestR1NoneAndEmpty(t *testing.T) {
	for _, text := range [][]byte{nil, {}, make([]byte, 0, 5)} {
		if n, at, e := syntax.Parse(text); shown(n) != "plan@0" || len(n.Kids) != 0 || at != 0 || e != api.OK {
			t.Errorf("Parse = %s", told(n, at, e))
		}
	}
	for _, kids := range [][]api.Node{nil, {}, make([]api.Node, 0, 5)} {
		n := api.Node{Kind: api.NodePlan, Kids: kids}
		checkValid(t, n, api.OK)
		checkPrint(t, n, "")
		checkValid(t, lets(api.Node{Kind: api.NodeNumber, Kids: kids}), api.OK)
		checkValid(t, lets(api.Node{Kind: api.NodeMin, Kids: kids}), api.ErrSyntaxTree)
	}
}

func TestR2NothingBesideAnError(t *testing.T) {
	const ahead = "volume a size 2K; "
	for _, tail := range []string{"!", "9x", "\"", ";", "absent", "when 1 { }", "absent \"${}\";", "let x = " + strings.Repeat("1+", 62) + "1;", strings.Repeat(";", mostTokens), strings.Repeat(" ", mostText)} {
		n, _, e := syntax.Parse([]byte(ahead + tail))
		if !isZero(n) || e == api.OK {
			t.Errorf("Parse(%s) = %s, %d", short(ahead+tail), shown(n), e)
		}
	}
}

// spare gives a tree whose lists have room behind them, with nodes in it that are found again.
func spare(n api.Node) api.Node {
	kids := make([]api.Node, 0, len(n.Kids)+2)
	for _, kid := range n.Kids {
		kids = append(kids, spare(kid))
	}
	behind := kids[:cap(kids)]
	for i := len(kids); i < len(behind); i++ {
		behind[i] = api.Node{Kind: 77, Text: "behind", Number: i}
	}
	n.Kids = kids
	return n
}

// allOf tells a tree with what stands in the room behind its lists.
func allOf(n api.Node) string {
	out := shown(api.Node{Kind: n.Kind, Text: n.Text, Number: n.Number, At: n.At})
	for _, kid := range n.Kids[:cap(n.Kids)] {
		out += "[" + allOf(kid) + "]"
	}
	return out
}

// What is handed in is not changed, and not kept.
func TestR4WhatIsHandedIn(t *testing.T) {
	const text = `volume "v${i + 1}" from b size 2K thick; when not exists(a) { let x = min(1, 2); } else { exact; }`
	room := []byte(text + "behind")
	given := room[:len(text):len(room)]
	n, _, e := syntax.Parse(given)
	if e != api.OK || string(room) != text+"behind" {
		t.Fatalf("Parse = %d, and the text is %s", e, room)
	}
	want := shown(n)
	for i := range room {
		room[i] = '!'
	}
	if got := shown(n); got != want {
		t.Errorf("what was read of a text that is written over is %s; want %s", got, want)
	}
	d := &drawing{seed: 16}
	for range 300 {
		n := spare(d.spoiltTree(d.plan(6 + d.below(3))))
		before := allOf(n)
		printed, _ := syntax.Print(n)
		syntax.Valid(n)
		if after := allOf(n); after != before {
			t.Fatalf("the tree became %s; it was %s", after, before)
		}
		printed = strings.Clone(printed)
		if again, _ := syntax.Print(n); again != printed {
			t.Fatalf("Print = %s; it was %s", again, printed)
		}
	}
}

// everyList calls what is to be done with each list of kids of a tree.
func everyList(n *api.Node, do func(kids *[]api.Node)) {
	for i := range n.Kids {
		everyList(&n.Kids[i], do)
	}
	do(&n.Kids)
}

// What is handed out is new: whoever writes over it, or appends to it, changes nothing else.
func TestR4WhatIsHandedOut(t *testing.T) {
	d := &drawing{seed: 17}
	for range 300 {
		text := []byte(leastText(d.plan(6 + d.below(4))))
		n, _, _ := syntax.Parse(text)
		second, _, _ := syntax.Parse(text)
		want := shown(n)
		// The room behind each list is its own.
		everyList(&second, func(kids *[]api.Node) {
			_ = append(*kids, api.Node{Kind: 88, Text: "appended"}, api.Node{Kind: 88})
			if shown(second) != want {
				t.Fatalf("Parse(%s): appending to a list made it %s", text, shown(second))
			}
		})
		// Each list is its own: what is written over one shows once in the whole.
		everyList(&second, func(kids *[]api.Node) {
			if len(*kids) == 0 {
				return
			}
			was := slices.Clone(*kids)
			(*kids)[0] = api.Node{Kind: 88, Text: "written"}
			if strings.Count(shown(second), "written") != 1 {
				t.Fatalf("Parse(%s): two lists are one", text)
			}
			copy(*kids, was)
		})
		everyList(&second, func(kids *[]api.Node) {
			for i := range *kids {
				(*kids)[i] = api.Node{Kind: 99}
			}
		})
		third, _, _ := syntax.Parse(text)
		if shown(n) != want || shown(third) != want {
			t.Fatalf("Parse(%s) = %s and %s; want %s", text, shown(n), shown(third), want)
		}
	}
}

// Asked twice, with other calls in between, the calls answer the same.
func TestR5AskedTwice(t *testing.T) {
	d := &drawing{seed: 18}
	var texts [][]byte
	var answers []string
	for range 200 {
		text := []byte(d.text())
		texts = append(texts, bytes.Clone(text))
		answers = append(answers, told(syntax.Parse(text)))
	}
	for i := len(texts) - 1; i >= 0; i-- {
		if got := told(syntax.Parse(texts[i])); got != answers[i] {
			t.Errorf("Parse(%s) = %s; it was %s", texts[i], got, answers[i])
		}
	}
}
