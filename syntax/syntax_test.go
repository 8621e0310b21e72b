package syntax_test

import (
	"fmt"
	"strings"
	"testing"

	"cistern/api"
	"cistern/syntax"
)

const (
	mostText   = 65536
	mostTokens = 16384
	mostDepth  = 64
	mostNumber = 1099511627776
)

// reserved are the words that the chapter names so, in its order.
var reserved = strings.Fields("let volume from size thick snapshot of keep absent rename to exact repeat when else or and not min max free exists")

// kindNames are the words for kinds that the tests tell trees by.
var kindNames = map[int]string{
	1: "plan", 2: "let", 3: "volume", 4: "snap", 5: "keep", 6: "absent", 7: "rename", 8: "exact", 9: "repeat", 10: "when", 11: "block", 12: "name", 13: "text",
	20: "number", 21: "word", 22: "add", 23: "sub", 24: "mul", 25: "div", 26: "rem", 27: "min", 28: "max", 29: "size", 30: "free",
	31: "less", 32: "equal", 33: "exists", 34: "not", 35: "and", 36: "or",
}

// shown tells a tree: kind, text, number, place, kids.
func shown(n api.Node) string {
	out := strings.Builder{}
	show(&out, n, true)
	return out.String()
}

// meant tells what a tree means: all but the places.
func meant(n api.Node) string {
	out := strings.Builder{}
	show(&out, n, false)
	return out.String()
}

func show(out *strings.Builder, n api.Node, withPlaces bool) {
	word, ok := kindNames[n.Kind]
	if !ok {
		word = fmt.Sprint("kind", n.Kind)
	}
	out.WriteString(word)
	if n.Text != "" {
		fmt.Fprintf(out, "'%s'", strings.ReplaceAll(n.Text, "'", "''"))
	}
	if n.Number != 0 {
		fmt.Fprintf(out, "#%d", n.Number)
	}
	if withPlaces {
		fmt.Fprintf(out, "@%d", n.At)
	}
	for i, kid := range n.Kids {
		out.WriteString([]string{"(", " "}[min(i, 1)])
		show(out, kid, withPlaces)
	}
	if len(n.Kids) > 0 {
		out.WriteString(")")
	}
}

// short cuts what a test tells.
func short(text string) string {
	if len(text) > 600 {
		return text[:300] + " ... " + text[len(text)-200:] + fmt.Sprintf(" (%d in all)", len(text))
	}
	return text
}

// isZero tells whether a tree is what stands beside an error.
func isZero(n api.Node) bool {
	return n.Kind == 0 && n.Text == "" && n.Number == 0 && n.At == 0 && len(n.Kids) == 0
}

func checkParse(t *testing.T, text string, want string) {
	t.Helper()
	n, at, e := syntax.Parse([]byte(text))
	if shown(n) != want || at != 0 || e != api.OK {
		t.Errorf("Parse(%s) = %s, %d, %d; want %s", short(text), short(shown(n)), at, e, short(want))
	}
}

func checkNoParse(t *testing.T, text string, at int, want api.Errno) {
	t.Helper()
	n, got, e := syntax.Parse([]byte(text))
	if !isZero(n) || got != at || e != want {
		t.Errorf("Parse(%s) = %s, %d, %d; want nothing, %d, %d", short(text), short(shown(n)), got, e, at, want)
	}
}

// checkToken holds that a text is refused for what stands at a place.
func checkToken(t *testing.T, text string, at int) {
	t.Helper()
	checkNoParse(t, text, at, api.ErrSyntaxToken)
}

// checkMark holds that a text is refused for what stands where a ^ marks it, in the line below it.
func checkMark(t *testing.T, text string, marked string, want api.Errno) {
	t.Helper()
	at := strings.Index(marked, "^")
	if at < 0 {
		t.Fatalf("%q marks nothing", marked)
	}
	checkNoParse(t, text, at, want)
}

func checkPrint(t *testing.T, n api.Node, want string) {
	t.Helper()
	if text, e := syntax.Print(n); text != want || e != api.OK {
		t.Errorf("Print(%s) = %s, %d; want %s", short(meant(n)), short(text), e, short(want))
	}
}

func checkNoPrint(t *testing.T, n api.Node, want api.Errno) {
	t.Helper()
	if text, e := syntax.Print(n); text != "" || e != want {
		t.Errorf("Print(%s) = %s, %d; want nothing, %d", short(meant(n)), short(text), e, want)
	}
}

// checkValid holds what Valid answers, and that Print answers its error.
func checkValid(t *testing.T, n api.Node, want api.Errno) {
	t.Helper()
	if e := syntax.Valid(n); e != want {
		t.Errorf("Valid(%s) = %d; want %d", short(meant(n)), e, want)
	}
	if want != api.OK {
		checkNoPrint(t, n, want)
	}
}

// node makes one of a kind with kids.
func node(kind int, kids ...api.Node) api.Node { return api.Node{Kind: kind, Kids: kids} }

func plan(clauses ...api.Node) api.Node { return node(api.NodePlan, clauses...) }

func block(clauses ...api.Node) api.Node { return node(api.NodeBlock, clauses...) }

func text(s string) api.Node { return api.Node{Kind: api.NodeText, Text: s} }

func name(parts ...api.Node) api.Node { return node(api.NodeName, parts...) }

// named is a name of one text.
func named(s string) api.Node { return name(text(s)) }

func number(value int) api.Node { return api.Node{Kind: api.NodeNumber, Number: value} }

func word(s string) api.Node { return api.Node{Kind: api.NodeWord, Text: s} }

func let(s string, value api.Node) api.Node {
	return api.Node{Kind: api.NodeLet, Text: s, Kids: []api.Node{value}}
}

func repeat(s string, kids ...api.Node) api.Node {
	return api.Node{Kind: api.NodeRepeat, Text: s, Kids: kids}
}

func absent(n api.Node) api.Node { return node(api.NodeAbsent, n) }

// lets is a plan that asks for a number in one clause.
func lets(value api.Node) api.Node { return plan(let("x", value)) }

// whens is a plan that asks for a condition in one clause.
func whens(condition api.Node) api.Node { return plan(node(api.NodeWhen, condition, block())) }

func less() api.Node { return node(api.NodeLess, number(1), number(2)) }

func TestP19ExamplesInTheirOrder(t *testing.T) {
	checkParse(t, "volume a size 2K;", "plan@0(volume@0(name@7(text'a'@7) number#2048@14))")

	checkParse(t, "let x = 1 + 2 * y;", "plan@0(let'x'@0(add@8(number#1@8 mul@12(number#2@12 word'y'@16))))")

	checkParse(t, `absent "v${i}";`, "plan@0(absent@0(name@7(text'v'@8 word'i'@11)))")

	checkNoParse(t, "absent a", 8, api.ErrSyntaxEnd)
	checkNoParse(t, "absent ;", 7, api.ErrSyntaxToken)
	checkNoParse(t, "absent of;", 7, api.ErrSyntaxToken)

	checkNoParse(t, "let x = 1 < 2;", 8, api.ErrSyntaxToken)
	checkNoParse(t, "let x = (1 < 2) + 3;", 9, api.ErrSyntaxToken)
	checkNoParse(t, "when 1 { }", 5, api.ErrSyntaxToken)
	checkNoParse(t, "when 1 < 2 < 3 { }", 11, api.ErrSyntaxToken)

	checkNoParse(t, `absent "${1 2}";`, 12, api.ErrSyntaxToken)
	checkNoParse(t, `absent "${}";`, 10, api.ErrSyntaxEnd)
	checkNoParse(t, `absent "${9x}";`, 10, api.ErrLexNumber)

	checkParse(t, "", "plan@0")
	checkNoParse(t, ";", 0, api.ErrSyntaxToken)

	checkPrint(t, lets(node(api.NodeMul, node(api.NodeAdd, number(1), number(2)), number(3))), "let x = ( 1 + 2 ) * 3 ;")

	checkPrint(t, plan(absent(named("size"))), `absent "size" ;`)

	checkValid(t, block(), api.ErrSyntaxTree)
	checkValid(t, api.Node{Kind: api.NodePlan, Text: "a"}, api.ErrSyntaxTree)
}
