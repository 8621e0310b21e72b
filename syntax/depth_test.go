package syntax_test

import (
	"strings"
	"testing"

	"cistern/api"
	"cistern/syntax"
)

// way is a way of going deeper: the text of a tree that goes on so many times, how deep it is, and the place of the node that is
// met first at the last depth.
type way struct {
	what  string
	text  func(times int) string
	depth func(times int) int
	at    func(times int) int
}

// ways gives each way of going deeper.
func ways() []way {
	nested := func(ahead string, opening string, inner string, closing string, tail string) func(times int) string {
		return func(times int) string {
			return ahead + strings.Repeat(opening, times) + inner + strings.Repeat(closing, times) + tail
		}
	}
	more := func(from int, step int) func(times int) int { return func(times int) int { return from + step*times } }
	// A name beside it is of depth 4 itself.
	besideName := func(from int, step int) func(times int) int {
		return func(times int) int { return max(4, from+step*times) }
	}
	return []way{
		{"an operand ahead", nested("let x = ", "1+", "1", "", ";"), more(3, 1), more(8, 0)},
		{"an argument", nested("let x = ", "min(", "1", ")", ";"), more(3, 1), more(8, 4)},
		{"the first of some arguments", nested("let x = ", "max(", "1", ",2)", ";"), more(3, 1), more(8, 4)},
		{"an operand behind", nested("let x = ", "1+(", "1-1", ")", ";"), more(4, 1), more(8, 3)},
		{"a not", nested("when ", "not ", "exists(a)", "", "{}"), more(5, 1), more(12, 4)},
		{"a not of an or", nested("when ", "not(", "1<2", " or 3<4)", "{}"), more(4, 2), more(5, 4)},
		{"a condition behind", nested("when ", "1<2 and(", "exists(a)", ")", "{}"), more(5, 1), more(12, 8)},
		{"a block of a repeat", nested("", "repeat i 0 to 0{", "exact;", "}", ""), more(2, 2), more(0, 16)},
		{"a block of a repeat, with a name", nested("", "repeat i 0 to 0{", "absent a;", "}", ""), more(4, 2), more(7, 16)},
		{"a block of a when", nested("", "when 0<1{", "exact;exact;", "}", ""), more(2, 2), more(0, 9)},
		{"an else block", nested("", "when 0<1{}else{", "snapshot of a;", "}", ""), more(4, 2), more(12, 15)},
		{"a number of a name", nested(`absent "a${`, "min(", "1", ")", `}b";`), more(4, 1), more(11, 4)},
		{"a number of a name, with a name", nested(`absent "a${`, "min(", "size(q)", ")", `}b";`), more(6, 1), more(16, 4)},
		{"a name of a size", nested(`let x = `, "min(", `size("a${1}")`, ")", `;`), more(5, 1), more(14, 4)},
		{"a number that is kept", nested(`keep `, "0-min(", `3`, ")", ` of a;`), besideName(3, 2), more(5, 6)},
		{"from of a repeat", nested(`repeat i `, "max(", `3`, ")", ` to 1 {}`), more(3, 1), more(9, 4)},
		{"to of a repeat", nested(`repeat i 0 to `, "max(", `3`, ")", ` {}`), more(3, 1), more(14, 4)},
		{"a size of a volume", nested(`volume a size `, "max(", `3`, ")", ` thick;`), besideName(3, 1), more(14, 4)},
		{"a source", nested(`volume a from "${`, "max(", `3`, ")", `}" size 1 thick;`), more(4, 1), more(17, 4)},
		{"a new name", nested(`rename a to "${`, "max(", `3`, ")", `}";`), more(4, 1), more(15, 4)},
	}
}

// TestP19_1EachWayOfGoingDeeper goes just as deep as may be, and one deeper.
func TestP19_1EachWayOfGoingDeeper(t *testing.T) {
	for _, w := range ways() {
		met := 0
		for times := range 70 {
			text := w.text(times)
			depth := w.depth(times)
			switch {
			case depth <= mostDepth:
				n, at, e := syntax.Parse([]byte(text))
				if e != api.OK || len(levels(n)) != depth {
					t.Fatalf("%s: Parse(%s) = %s; want a tree of depth %d", w.what, text, told(n, at, e), depth)
				}
				checkValid(t, n, api.OK)
			case depth == mostDepth+1:
				checkNoParse(t, text, w.at(times), api.ErrSyntaxDeep)
				met++
			default:
				n, at, e := syntax.Parse([]byte(text))
				want, wantAt, wantE := modelled(text)
				if told(n, at, e) != told(want, wantAt, wantE) || e != api.ErrSyntaxDeep {
					t.Fatalf("%s: Parse(%s) = %s; want %s", w.what, text, told(n, at, e), told(want, wantAt, wantE))
				}
			}
		}
		if isEven := w.depth(1)-w.depth(0) == 2 && w.depth(0)%2 == 0; met == 0 && !isEven {
			t.Errorf("%s: no tree is of depth 65", w.what)
		}
	}
}

// Ways that go two deeper at a time come to the node of depth 65 in their midst.
func TestP19_1TheFirstNodeThatIsTooDeep(t *testing.T) {
	repeats := func(times int, inner string) string {
		return strings.Repeat("repeat i 0 to 0{", times) + inner + strings.Repeat("}", times)
	}
	// A repeat of depth 64, whose from is of depth 65; and a clause of depth 64.
	checkNoParse(t, repeats(32, ""), 31*16+9, api.ErrSyntaxDeep)
	checkNoParse(t, repeats(32, "exact;"), 31*16+9, api.ErrSyntaxDeep)
	checkNoParse(t, repeats(31, "exact;absent a;"), 31*16+13, api.ErrSyntaxDeep)
	checkNoParse(t, repeats(31, "volume a from b size 1;"), 31*16+7, api.ErrSyntaxDeep)
	checkNoParse(t, repeats(31, "when(1)<2{}"), 31*16+5, api.ErrSyntaxDeep)
	if _, at, e := syntax.Parse([]byte(repeats(31, "exact;exact;"))); at != 0 || e != api.OK {
		t.Errorf("a clause of depth 64 is refused: %d, %d", at, e)
	}

	// A chain of 62 operators: the first of its numbers is the deepest.
	checkNoParse(t, "let x = "+strings.Repeat("1+", 62)+"1;", 8, api.ErrSyntaxDeep)
	checkNoParse(t, "let x = "+strings.Repeat("1*", 8000)+"1;", 8, api.ErrSyntaxDeep)
	checkNoParse(t, "let x = ("+strings.Repeat("1+", 62)+"1);", 9, api.ErrSyntaxDeep)
	if _, at, e := syntax.Parse([]byte("let x = " + strings.Repeat("1+", 61) + "1;")); at != 0 || e != api.OK {
		t.Errorf("a chain of depth 64 is refused: %d, %d", at, e)
	}

	// Of several that are too deep, the first by the kids and not by the text.
	deep := strings.Repeat("min(", 62) + "7" + strings.Repeat(")", 62)
	const into = 62 * 4
	checkNoParse(t, `volume a from "${`+deep+`}" size `+deep+`;`, 17+len(deep)+8+into, api.ErrSyntaxDeep)
	checkNoParse(t, `volume "${`+deep+`}" from "${`+deep+`}" size `+deep+`;`, 10+61*4, api.ErrSyntaxDeep)
	checkNoParse(t, `exact; keep `+deep+` of "${`+deep+`}";`, 12+into, api.ErrSyntaxDeep)
	checkNoParse(t, `exact; let x = 1; let x = `+deep+`; let y = `+deep+`;`, 26+into, api.ErrSyntaxDeep)
	checkNoParse(t, `repeat i `+deep+` to `+deep+` {}`, 9+into, api.ErrSyntaxDeep)
	checkNoParse(t, `let x = 1 + `+strings.Repeat("min(", 61)+`(2)+3`+strings.Repeat(")", 61)+`;`, 12+61*4+1, api.ErrSyntaxDeep)
}

// What is too deep is told only if nothing else is wrong.
func TestP19_1TooDeepComesLast(t *testing.T) {
	deep := "let x = " + strings.Repeat("1+", 100) + "1"
	checkNoParse(t, deep, len(deep), api.ErrSyntaxEnd)
	checkToken(t, deep+" 2;", len(deep)+1)
	checkToken(t, deep+"; ;", len(deep)+2)
	checkToken(t, deep+"; when 1 { }", len(deep)+7)
	checkNoParse(t, deep+`; absent "${}";`, len(deep)+12, api.ErrSyntaxEnd)
	checkNoParse(t, deep+`; absent "${9x}";`, len(deep)+12, api.ErrLexNumber)
	checkNoParse(t, deep+"; !", len(deep)+2, api.ErrLexByte)
	checkNoParse(t, deep+";", 8, api.ErrSyntaxDeep)
}

// As deep as the tokens reach, by every way: it ends, and parentheses alone are no depth.
func TestP19_1AsDeepAsTheTokensReach(t *testing.T) {
	for _, w := range ways() {
		// No more bytes than there may be tokens.
		times := (mostTokens - len(w.text(0))) / (len(w.text(1)) - len(w.text(0)))
		if _, at, e := syntax.Parse([]byte(w.text(times))); e != api.ErrSyntaxDeep {
			t.Errorf("%s: %d times comes to %d, %d", w.what, times, at, e)
		}
	}
	for _, c := range []struct {
		text string
		want api.Errno
	}{
		{"when " + strings.Repeat("not ", 16000) + "1<2{}", api.ErrSyntaxDeep},
		{"let x = " + strings.Repeat("(", 8189) + "1" + strings.Repeat(")", 8189) + ";", api.OK},
		{"let x = " + strings.Repeat("(", 16000) + "1;", api.ErrSyntaxToken},
		{"let x = " + strings.Repeat("(", 16000), api.ErrSyntaxEnd},
		{strings.Repeat("when 1<2{", 2700), api.ErrSyntaxEnd},
		{"let x = " + strings.Repeat("size(", 8000), api.ErrSyntaxToken},
	} {
		if _, _, e := syntax.Parse([]byte(c.text)); e != c.want {
			t.Errorf("Parse(%s) = %d; want %d", short(c.text), e, c.want)
		}
	}
}

// bottom gives a plan in which a clause lies at a depth, which is even.
func bottom(depth int, clause api.Node) api.Node {
	for at := depth; at > 2; at -= 2 {
		clause = repeat("i", number(0), number(0), block(clause))
	}
	return plan(clause)
}

// lowNumber gives a plan in which a number lies at a depth of 3 or more.
func lowNumber(depth int, n api.Node) api.Node {
	for range depth - 3 {
		n = node(api.NodeMax, n)
	}
	return lets(n)
}

// lowCondition gives a plan in which a condition lies at a depth of 3 or more.
func lowCondition(depth int, n api.Node) api.Node {
	for range depth - 3 {
		n = node(api.NodeNot, n)
	}
	return whens(n)
}

// lowWithin gives a plan in which a number lies at a depth of 4 or more, within a name's number.
func lowWithin(depth int, n api.Node) api.Node {
	for range depth - 4 {
		n = node(api.NodeMax, n)
	}
	return plan(absent(name(n)))
}

// At the last depth a node's own kind, text, number and number of kids are looked at, and nothing of its kids.
func TestP19_3AtTheLastDepth(t *testing.T) {
	wrong := []api.Node{{}, {Kind: -1}, {Kind: 99}, {Kind: api.NodePlan}, {Kind: api.NodeText, Text: "$"}, {Kind: api.NodeNumber, Number: -1}, {Kind: api.NodeMin}, {Kind: api.NodeWord, Text: "of"}, {Kind: api.NodeExact, Text: "a"}}
	const deep, tree = api.ErrSyntaxDeep, api.ErrSyntaxTree
	for i, n := range wrong {
		checkValid(t, lowNumber(64, n), tree)
		checkValid(t, lowNumber(65, n), deep)
		checkValid(t, lowNumber(66, n), deep)
		checkValid(t, lowCondition(64, n), tree)
		checkValid(t, lowCondition(65, n), deep)
		checkValid(t, lowWithin(64, n), tree)
		checkValid(t, lowWithin(65, n), deep)
		if i == 0 {
			checkValid(t, bottom(64, n), tree)
			checkValid(t, bottom(66, n), deep)
		}
	}
	for _, c := range []struct {
		n    api.Node
		want api.Errno
	}{
		{lowNumber(64, number(1)), api.OK},
		{lowNumber(65, number(1)), deep},
		{lowNumber(64, node(api.NodeFree)), api.OK},
		{lowNumber(64, node(api.NodeFree, number(1))), tree},
		{lowNumber(64, node(api.NodeMin)), tree},
		{lowNumber(64, node(api.NodeMin, less())), deep},
		{lowNumber(64, node(api.NodeMin, text("a"), text("b"))), deep},
		{lowNumber(64, node(api.NodeAdd, number(1))), tree},
		{lowNumber(64, node(api.NodeAdd, less(), plan())), deep},
		{lowNumber(64, node(api.NodeAdd, number(1), number(1), number(1))), tree},
		{lowNumber(64, api.Node{Kind: api.NodeMin, Number: 1, Kids: []api.Node{number(1)}}), tree},
		{lowNumber(64, api.Node{Kind: api.NodeMin, Text: "a", Kids: []api.Node{number(1)}}), tree},
		{lowNumber(64, less()), tree},
		{lowNumber(64, node(api.NodeSize, named("a"))), deep},
		{lowNumber(64, node(api.NodeSize)), tree},
		{lowNumber(64, node(api.NodeSize, number(1))), deep},
		{lowNumber(63, node(api.NodeSize, name())), api.OK},
		{lowNumber(63, node(api.NodeSize, number(1))), tree},
		// A name of depth 64: how many parts it has is its own, what they are is not.
		{lowNumber(63, node(api.NodeSize, name(text("a"), text("b")))), deep},
		{lowNumber(63, node(api.NodeSize, name(text("")))), deep},
		{lowNumber(63, node(api.NodeSize, name(less()))), deep},
		{lowNumber(62, node(api.NodeSize, name(text("a"), text("b")))), tree},
		{lowNumber(62, node(api.NodeSize, name(text("")))), tree},
		{lowNumber(62, node(api.NodeSize, name(less()))), tree},
		{lowNumber(62, node(api.NodeSize, named("a b"))), api.OK},
		{lowNumber(63, node(api.NodeSize, api.Node{Kind: api.NodeName, Text: "a", Kids: []api.Node{text("a")}})), tree},
		// One within a name's number has one part; what that is is looked at down to the last depth.
		{lowWithin(62, node(api.NodeSize, named("a"))), api.OK},
		{lowWithin(62, node(api.NodeSize, named("a b"))), tree},
		{lowWithin(62, node(api.NodeSize, named("of"))), tree},
		{lowWithin(62, node(api.NodeSize, name(number(1)))), tree},
		{lowWithin(63, node(api.NodeSize, named("a b"))), deep},
		{lowWithin(63, node(api.NodeSize, named("of"))), deep},
		{lowWithin(63, node(api.NodeSize, name(number(1)))), deep},
		{lowWithin(63, node(api.NodeSize, name())), tree},
		{lowWithin(63, node(api.NodeSize, name(text("a"), number(1)))), tree},
		{lowWithin(63, node(api.NodeSize, number(1))), tree},
		{lowWithin(64, node(api.NodeSize, number(1))), deep},
		{lowCondition(64, node(api.NodeExists, number(1))), deep},
		{lowCondition(64, node(api.NodeExists)), tree},
		{lowCondition(64, number(1)), tree},
		{lowCondition(64, node(api.NodeOr, number(1), block())), deep},
		{lowCondition(64, node(api.NodeOr, less())), tree},
		{lowCondition(63, node(api.NodeOr, number(1), less())), tree},
		{lowCondition(63, less()), api.OK},
		{bottom(64, node(api.NodeExact)), api.OK},
		{bottom(64, node(api.NodeExact, plan())), tree},
		{bottom(64, absent(plan())), deep},
		{bottom(64, node(api.NodeAbsent)), tree},
		{bottom(64, node(api.NodeVolume, plan(), plan())), deep},
		{bottom(64, node(api.NodeVolume, plan())), tree},
		{bottom(64, node(api.NodeVolume, plan(), plan(), plan(), plan())), tree},
		{bottom(64, api.Node{Kind: api.NodeVolume, Number: 2, Kids: []api.Node{named("a"), number(1)}}), tree},
		{bottom(64, let("of", plan())), tree},
		{bottom(64, let("o", plan())), deep},
		{bottom(64, repeat("i", block(), block(), number(1))), deep},
		{bottom(64, repeat("i", number(0), number(0))), tree},
		{bottom(64, block()), tree},
	} {
		checkValid(t, c.n, c.want)
	}
}

// What may not be at depth 64 or less comes ahead of what is too deep, wherever the two stand.
func TestP19_3WrongAheadOfDeep(t *testing.T) {
	deep := let("y", lowNumber(70, number(1)).Kids[0].Kids[0])
	bad := let("of", number(1))
	checkValid(t, plan(deep), api.ErrSyntaxDeep)
	checkValid(t, plan(deep, bad), api.ErrSyntaxTree)
	checkValid(t, plan(bad, deep), api.ErrSyntaxTree)
	checkValid(t, plan(deep, node(api.NodeExact)), api.ErrSyntaxDeep)
	checkValid(t, plan(node(api.NodeExact), deep), api.ErrSyntaxDeep)
	checkValid(t, block(deep), api.ErrSyntaxTree)
	checkValid(t, api.Node{Kind: api.NodePlan, Number: 1, Kids: []api.Node{deep}}, api.ErrSyntaxTree)
	for _, depth := range []int{200, 1000, 60000} {
		checkValid(t, lowNumber(depth, number(1)), api.ErrSyntaxDeep)
		checkValid(t, lowCondition(depth, less()), api.ErrSyntaxDeep)
		checkValid(t, bottom(depth, node(api.NodeExact)), api.ErrSyntaxDeep)
	}
}

// A tree of depth 64 is printed and read again, by each way.
func TestP19_4AtTheLastDepth(t *testing.T) {
	for _, w := range ways() {
		for times := 50; times >= 0; times-- {
			if w.depth(times) > mostDepth {
				continue
			}
			n, _, e := syntax.Parse([]byte(w.text(times)))
			if e != api.OK {
				t.Fatalf("%s: %d", w.what, e)
			}
			checkAgain(t, n)
		}
	}
	for _, n := range []api.Node{lowNumber(64, number(1)), lowCondition(63, less()), lowWithin(62, node(api.NodeSize, named("a"))), bottom(64, node(api.NodeExact))} {
		if len(levels(n)) != mostDepth {
			t.Fatalf("a tree of depth %d", len(levels(n)))
		}
		checkAgain(t, n)
	}
}
