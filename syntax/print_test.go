package syntax_test

import (
	"fmt"
	"slices"
	"strings"
	"testing"

	"cistern/api"
	"cistern/syntax"
)

func TestP19_2EachKindOfNode(t *testing.T) {
	a, b, one := named("a"), named("b"), number(1)
	thick := func(n api.Node) api.Node { n.Number = 1; return n }
	two := func(kind int) api.Node { return node(kind, one, number(2)) }
	for _, c := range []struct {
		n    api.Node
		want string
	}{
		{plan(), ""},
		{plan(node(api.NodeExact)), "exact ;"},
		{plan(node(api.NodeExact), node(api.NodeExact)), "exact ; exact ;"},
		{lets(one), "let x = 1 ;"},
		{plan(node(api.NodeVolume, a, one)), "volume a size 1 ;"},
		{plan(node(api.NodeVolume, a, one, b)), "volume a from b size 1 ;"},
		{plan(thick(node(api.NodeVolume, a, one))), "volume a size 1 thick ;"},
		{plan(thick(node(api.NodeVolume, a, one, b))), "volume a from b size 1 thick ;"},
		{plan(node(api.NodeSnap, a)), "snapshot of a ;"},
		{plan(node(api.NodeKeep, one, a)), "keep 1 of a ;"},
		{plan(absent(a)), "absent a ;"},
		{plan(node(api.NodeRename, a, b)), "rename a to b ;"},
		{plan(repeat("i", one, number(2), block())), "repeat i 1 to 2 { }"},
		{plan(repeat("i", one, number(2), block(absent(a), node(api.NodeExact)))), "repeat i 1 to 2 { absent a ; exact ; }"},
		{plan(node(api.NodeWhen, exists("a"), block())), "when exists ( a ) { }"},
		{plan(node(api.NodeWhen, exists("a"), block(), block())), "when exists ( a ) { } else { }"},
		{plan(node(api.NodeWhen, exists("a"), block(absent(a)), block(node(api.NodeExact)))), "when exists ( a ) { absent a ; } else { exact ; }"},
		{lets(number(0)), "let x = 0 ;"},
		{lets(number(mostNumber)), "let x = 1099511627776 ;"},
		{lets(number(2048)), "let x = 2048 ;"},
		{lets(word("y")), "let x = y ;"},
		{lets(two(api.NodeAdd)), "let x = 1 + 2 ;"},
		{lets(two(api.NodeSub)), "let x = 1 - 2 ;"},
		{lets(two(api.NodeMul)), "let x = 1 * 2 ;"},
		{lets(two(api.NodeDiv)), "let x = 1 / 2 ;"},
		{lets(two(api.NodeRem)), "let x = 1 % 2 ;"},
		{lets(node(api.NodeMin, one)), "let x = min ( 1 ) ;"},
		{lets(node(api.NodeMin, one, number(2), number(3))), "let x = min ( 1 , 2 , 3 ) ;"},
		{lets(node(api.NodeMax, one, two(api.NodeAdd))), "let x = max ( 1 , 1 + 2 ) ;"},
		{lets(node(api.NodeSize, a)), "let x = size ( a ) ;"},
		{lets(node(api.NodeFree)), "let x = free ( ) ;"},
		{whens(two(api.NodeLess)), "when 1 < 2 { }"},
		{whens(two(api.NodeEqual)), "when 1 = 2 { }"},
		{whens(exists("a")), "when exists ( a ) { }"},
		{whens(node(api.NodeNot, exists("a"))), "when not exists ( a ) { }"},
		{whens(node(api.NodeAnd, exists("a"), exists("b"))), "when exists ( a ) and exists ( b ) { }"},
		{whens(node(api.NodeOr, exists("a"), exists("b"))), "when exists ( a ) or exists ( b ) { }"},
	} {
		checkPrint(t, c.n, c.want)
		checkAgain(t, c.n)
	}
}

// printRule is the place of a kind's rule among or, and, not, compare, sum, product, atom.
func printRule(kind int) int {
	switch kind {
	case api.NodeOr:
		return 0
	case api.NodeAnd:
		return 1
	case api.NodeNot:
		return 2
	case api.NodeLess, api.NodeEqual:
		return 3
	case api.NodeAdd, api.NodeSub:
		return 4
	case api.NodeMul, api.NodeDiv, api.NodeRem:
		return 5
	}
	return 6
}

// Every operand of every kind in every place: parentheses just where the place asks for a later rule than its own.
func TestP19_2EachOperandInEachPlace(t *testing.T) {
	numbers := map[int]string{20: "7", 21: "y", 22: "7 + 7", 23: "7 - 7", 24: "7 * 7", 25: "7 / 7", 26: "7 % 7", 27: "min ( 7 )", 28: "max ( 7 , 7 )", 29: "size ( q )", 30: "free ( )"}
	conditions := map[int]string{31: "7 < 7", 32: "7 = 7", 33: "exists ( q )", 34: "not exists ( q )", 35: "exists ( q ) and exists ( q )", 36: "exists ( q ) or exists ( q )"}
	operand := func(kind int) api.Node { return sample(kind) }
	inParentheses := func(text string, kind int, asked int) string {
		if printRule(kind) < asked {
			return "( " + text + " )"
		}
		return text
	}
	for kind, text := range numbers {
		for _, o := range append(slices.Clone(sums), comparisons...) {
			ahead, behind := printRule(o.kind), printRule(o.kind)+1
			if o.kind == api.NodeLess || o.kind == api.NodeEqual {
				ahead = behind
			}
			clause, begin, end := lets, "let x = ", " ;"
			if o.kind >= api.NodeLess {
				clause, begin, end = whens, "when ", " { }"
			}
			checkPrint(t, clause(node(o.kind, operand(kind), number(1))), begin+inParentheses(text, kind, ahead)+" "+o.text+" 1"+end)
			checkPrint(t, clause(node(o.kind, number(1), operand(kind))), begin+"1 "+o.text+" "+inParentheses(text, kind, behind)+end)
		}
		checkPrint(t, lets(operand(kind)), "let x = "+text+" ;")
		checkPrint(t, lets(node(api.NodeMin, operand(kind), operand(kind))), "let x = min ( "+text+" , "+text+" ) ;")
		checkPrint(t, plan(node(api.NodeVolume, named("a"), operand(kind))), "volume a size "+text+" ;")
		checkPrint(t, plan(node(api.NodeKeep, operand(kind), named("a"))), "keep "+text+" of a ;")
		checkPrint(t, plan(repeat("i", operand(kind), operand(kind), block())), "repeat i "+text+" to "+text+" { }")
		checkPrint(t, plan(absent(name(operand(kind)))), `absent "${`+text+`}" ;`)
	}
	for kind, text := range conditions {
		for _, o := range junctions {
			checkPrint(t, whens(node(o.kind, operand(kind), exists("a"))), "when "+inParentheses(text, kind, printRule(o.kind))+" "+o.text+" exists ( a ) { }")
			checkPrint(t, whens(node(o.kind, exists("a"), operand(kind))), "when exists ( a ) "+o.text+" "+inParentheses(text, kind, printRule(o.kind)+1)+" { }")
		}
		checkPrint(t, whens(node(api.NodeNot, operand(kind))), "when not "+inParentheses(text, kind, 2)+" { }")
		checkPrint(t, whens(operand(kind)), "when "+text+" { }")
	}
}

func TestP19_2Parentheses(t *testing.T) {
	for _, c := range []struct{ text, want string }{
		{"let x = (1 + 2) * 3;", "let x = ( 1 + 2 ) * 3 ;"},
		{"let x = 1 + (2 * 3);", "let x = 1 + 2 * 3 ;"},
		{"let x = (1 * 2) + 3;", "let x = 1 * 2 + 3 ;"},
		{"let x = (1 - 2) - 3;", "let x = 1 - 2 - 3 ;"},
		{"let x = 1 - (2 - 3);", "let x = 1 - ( 2 - 3 ) ;"},
		{"let x = 1 + (2 - (3 + 4));", "let x = 1 + ( 2 - ( 3 + 4 ) ) ;"},
		{"let x = 1 * (2 / 3) % 4;", "let x = 1 * ( 2 / 3 ) % 4 ;"},
		{"let x = min((1 + 2), (3));", "let x = min ( 1 + 2 , 3 ) ;"},
		{"let x = (min(1)) * (free());", "let x = min ( 1 ) * free ( ) ;"},
		{"when (1 + 2) < (3 * 4) { }", "when 1 + 2 < 3 * 4 { }"},
		{"when (1 < 2) and (3 = 4) { }", "when 1 < 2 and 3 = 4 { }"},
		{"when (1 < 2 or 3 < 4) and 5 < 6 { }", "when ( 1 < 2 or 3 < 4 ) and 5 < 6 { }"},
		{"when 1 < 2 or (3 < 4 and 5 < 6) { }", "when 1 < 2 or 3 < 4 and 5 < 6 { }"},
		{"when 1 < 2 or (3 < 4 or 5 < 6) { }", "when 1 < 2 or ( 3 < 4 or 5 < 6 ) { }"},
		{"when (1 < 2 and 3 < 4) and (5 < 6 and 7 < 8) { }", "when 1 < 2 and 3 < 4 and ( 5 < 6 and 7 < 8 ) { }"},
		{"when not (1 < 2) { }", "when not 1 < 2 { }"},
		{"when not (not (1 < 2)) { }", "when not not 1 < 2 { }"},
		{"when not (1 < 2 and 3 < 4) { }", "when not ( 1 < 2 and 3 < 4 ) { }"},
		{"when (not 1 < 2) and 3 < 4 { }", "when not 1 < 2 and 3 < 4 { }"},
		{"when not (1 < 2 or (3 < 4)) or (not (5 < 6)) { }", "when not ( 1 < 2 or 3 < 4 ) or not 5 < 6 { }"},
	} {
		n, _, e := syntax.Parse([]byte(c.text))
		if e != api.OK {
			t.Fatalf("Parse(%s) = %d", c.text, e)
		}
		checkPrint(t, n, c.want)
	}
}

func TestP19_2Names(t *testing.T) {
	for _, w := range []string{"a", "_", "x9", "A_z", "sizes", "Size", "K"} {
		checkPrint(t, plan(absent(named(w))), "absent "+w+" ;")
	}
	for _, w := range append([]string{"1a", "a b", "a.b", "a-", "~x", " ", "a#", ";", "a;", "'", `\`, "(", "1", "a "}, reserved...) {
		checkPrint(t, plan(absent(named(w))), `absent "`+w+`" ;`)
		checkPrint(t, lets(node(api.NodeSize, named(w))), `let x = size ( "`+w+`" ) ;`)
	}
	for _, c := range []struct {
		n    api.Node
		want string
	}{
		{name(), `""`},
		{name(word("i")), `"${i}"`},
		{name(number(7)), `"${7}"`},
		{name(number(1), number(2)), `"${1}${2}"`},
		{name(text("a"), number(1)), `"a${1}"`},
		{name(text("a"), word("b"), text("c")), `"a${b}c"`},
		{name(number(1), text("size"), number(2048)), `"${1}size${2048}"`},
		{name(node(api.NodeMul, node(api.NodeAdd, word("i"), number(1)), number(2))), `"${( i + 1 ) * 2}"`},
		{name(text("v"), node(api.NodeAdd, word("i"), node(api.NodeMul, number(1), number(2)))), `"v${i + 1 * 2}"`},
		{name(node(api.NodeSize, named("a"))), `"${size ( a )}"`},
		{name(node(api.NodeMin, node(api.NodeFree), number(3))), `"${min ( free ( ) , 3 )}"`},
	} {
		checkPrint(t, plan(absent(c.n)), "absent "+c.want+" ;")
		checkPrint(t, plan(node(api.NodeRename, c.n, c.n)), "rename "+c.want+" to "+c.want+" ;")
		checkPrint(t, whens(node(api.NodeExists, c.n)), "when exists ( "+c.want+" ) { }")
		checkAgain(t, plan(node(api.NodeVolume, c.n, number(1), c.n)))
	}
}

// Places are no part of what is written.
func TestP19_2PlacesAreNotLookedAt(t *testing.T) {
	n := lets(number(1))
	n.At, n.Kids[0].At, n.Kids[0].Kids[0].At = -5, 1<<62, 70000
	checkPrint(t, n, "let x = 1 ;")
	checkValid(t, n, api.OK)
}

// long is a text of so many bytes that is a word.
func long(size int) string { return strings.Repeat("w", size) }

// many is a number of so many tokens, an even number and at least 4.
func many(tokens int) api.Node {
	return node(api.NodeMin, repeated(number(1), (tokens-2)/2)...)
}

func TestP19_2TooManyTokens(t *testing.T) {
	exact := node(api.NodeExact)
	checkPrint(t, plan(repeated(exact, mostTokens/2)...), strings.TrimSuffix(strings.Repeat("exact ; ", mostTokens/2), " "))
	checkNoPrint(t, plan(repeated(exact, mostTokens/2+1)...), api.ErrLexMany)
	checkNoPrint(t, plan(append(repeated(exact, mostTokens/2-1), absent(named("a")))...), api.ErrLexMany)
	checkNoPrint(t, plan(repeated(exact, 1000000)...), api.ErrLexMany)
	// let x = ;: four tokens, and min with its arguments.
	if text, e := syntax.Print(lets(many(mostTokens - 4))); e != api.OK || strings.Count(text, " ") != mostTokens-1 {
		t.Errorf("Print = %d with %d blanks", e, strings.Count(text, " "))
	}
	checkNoPrint(t, lets(many(mostTokens-2)), api.ErrLexMany)
	for _, n := range []api.Node{plan(repeated(exact, mostTokens/2+1)...), lets(many(2 * mostTokens))} {
		checkValid(t, n, api.OK)
	}
}

func TestP19_2TooLong(t *testing.T) {
	// "absent " and " ;" are nine bytes, the quotes two.
	checkPrint(t, plan(absent(named(long(mostText-9)))), "absent "+long(mostText-9)+" ;")
	checkNoPrint(t, plan(absent(named(long(mostText-8)))), api.ErrLexLong)
	checkPrint(t, plan(absent(named("-"+long(mostText-12)))), `absent "-`+long(mostText-12)+`" ;`)
	checkNoPrint(t, plan(absent(named("-"+long(mostText-11)))), api.ErrLexLong)
	// A word is one, however long it is; so the tree may be, and cannot be written.
	for _, n := range []api.Node{lets(word(long(mostText + 1))), plan(let(long(mostText+1), number(1))), plan(absent(named(long(2 * mostText)))), plan(absent(named(strings.Repeat(" ", 2*mostText)))),
		plan(repeat(long(mostText+1), number(1), number(1), block())), plan(absent(name(node(api.NodeSize, named(long(mostText+1))))))} {
		checkValid(t, n, api.OK)
		checkNoPrint(t, n, api.ErrLexLong)
	}
	checkNoPrint(t, plan(repeated(absent(named(long(60))), 1000)...), api.ErrLexLong)
	checkPrint(t, lets(word(long(mostText-10))), "let x = "+long(mostText-10)+" ;")
	// Both: the tokens are counted first.
	checkNoPrint(t, plan(append(repeated(node(api.NodeExact), mostTokens/2), absent(named(long(mostText))))...), api.ErrLexMany)
}

// A number in a name is written for itself: what it is refused for comes ahead of what the whole is.
func TestP19_2ANumberInANameAheadOfTheWhole(t *testing.T) {
	tooMany, tooLong := name(many(mostTokens+2)), name(word(long(mostText+1)))
	exacts := repeated(node(api.NodeExact), mostTokens/2+1)
	longName := absent(named(long(mostText)))
	for _, c := range []struct {
		n    api.Node
		want api.Errno
	}{
		{plan(absent(tooMany)), api.ErrLexMany}, // though the whole has three tokens
		{plan(absent(name(many(mostTokens)))), api.OK},
		{plan(absent(tooLong)), api.ErrLexLong},
		{plan(absent(name(text("a"), word(long(mostText-12))))), api.ErrLexLong}, // the whole alone
		{plan(absent(name(text("a"), word(long(mostText-15))))), api.OK},
		// The whole is too long, or has too many tokens, for itself too.
		{plan(longName, absent(tooMany)), api.ErrLexMany},
		{plan(absent(tooMany), longName), api.ErrLexMany},
		{plan(append(exacts, absent(tooLong))...), api.ErrLexLong},
		{plan(append([]api.Node{absent(tooLong)}, exacts...)...), api.ErrLexLong},
		{plan(append(exacts, absent(name(number(1))))...), api.ErrLexMany},
		// Of several the first: in a name, and in the order in which they are written.
		{plan(absent(name(tooMany.Kids[0], tooLong.Kids[0]))), api.ErrLexMany},
		{plan(absent(name(tooLong.Kids[0], tooMany.Kids[0]))), api.ErrLexLong},
		{plan(absent(name(number(1), text("a"), tooLong.Kids[0], tooMany.Kids[0]))), api.ErrLexLong},
		{plan(absent(tooMany), absent(tooLong)), api.ErrLexMany},
		{plan(absent(tooLong), absent(tooMany)), api.ErrLexLong},
		{plan(node(api.NodeRename, tooLong, tooMany)), api.ErrLexLong},
		{plan(node(api.NodeVolume, named("a"), node(api.NodeSize, tooMany), tooLong)), api.ErrLexLong},
		{plan(node(api.NodeVolume, named("a"), node(api.NodeSize, tooLong), tooMany)), api.ErrLexMany},
		{plan(node(api.NodeVolume, tooLong, node(api.NodeSize, tooMany), tooMany)), api.ErrLexLong},
		{whens(node(api.NodeAnd, node(api.NodeExists, tooMany), node(api.NodeExists, tooLong))), api.ErrLexMany},
		// What may not be comes ahead of all.
		{plan(absent(tooLong), node(api.NodeExact, number(1))), api.ErrSyntaxTree},
		{plan(absent(tooLong), lowNumber(65, number(1)).Kids[0]), api.ErrSyntaxDeep},
	} {
		if c.want == api.OK {
			checkAgain(t, c.n)
		} else {
			checkNoPrint(t, c.n, c.want)
		}
	}
}

// No list of tokens is made of a tree that has many times as many as may be.
func TestP19_2HugeTrees(t *testing.T) {
	n := number(1)
	for range 18 {
		n = node(api.NodeAdd, n, n)
	}
	checkNoPrint(t, lets(n), api.ErrLexMany)
	checkNoPrint(t, plan(absent(name(n))), api.ErrLexMany)
	checkValid(t, lets(n), api.OK)
}

// sample gives a node of a kind that may be, in some place.
func sample(kind int) api.Node {
	seven, q := number(7), named("q")
	switch kind {
	case api.NodeLet:
		return let("x", seven)
	case api.NodeVolume:
		return node(kind, q, seven)
	case api.NodeSnap, api.NodeAbsent, api.NodeSize, api.NodeExists:
		return node(kind, q)
	case api.NodeKeep:
		return node(kind, seven, q)
	case api.NodeRename:
		return node(kind, q, q)
	case api.NodeRepeat:
		return repeat("i", seven, seven, block())
	case api.NodeWhen:
		return node(kind, node(api.NodeExists, q), block())
	case api.NodeName:
		return q
	case api.NodeText:
		return text("q")
	case api.NodeNumber:
		return seven
	case api.NodeWord:
		return word("y")
	case api.NodeAdd, api.NodeSub, api.NodeMul, api.NodeDiv, api.NodeRem, api.NodeLess, api.NodeEqual, api.NodeMax:
		return node(kind, seven, seven)
	case api.NodeMin:
		return node(kind, seven)
	case api.NodeNot:
		return node(kind, node(api.NodeExists, q))
	case api.NodeAnd, api.NodeOr:
		return node(kind, node(api.NodeExists, q), node(api.NodeExists, q))
	}
	return node(kind)
}

func TestP19EachKindHasASample(t *testing.T) {
	for kind := range kindNames {
		n := sample(kind)
		if n.Kind != kind {
			t.Error(fmt.Sprint("the sample of ", kind, " is ", n.Kind))
		}
	}
}
