package syntax_test

import (
	"fmt"
	"strings"
	"testing"

	"cistern/api"
	"cistern/syntax"
)

// checkMeans holds which tree a text is read as, but for places.
func checkMeans(t *testing.T, text string, want api.Node) {
	t.Helper()
	n, at, e := syntax.Parse([]byte(text))
	if meant(n) != meant(want) || at != 0 || e != api.OK {
		t.Errorf("Parse(%s) = %s, %d, %d; want %s", short(text), short(meant(n)), at, e, short(meant(want)))
	}
}

// binary is an operator, how close it binds, and the kind that it makes.
type binary struct {
	text string
	rank int
	kind int
}

var (
	sums        = []binary{{"+", 1, api.NodeAdd}, {"-", 1, api.NodeSub}, {"*", 2, api.NodeMul}, {"/", 2, api.NodeDiv}, {"%", 2, api.NodeRem}}
	junctions   = []binary{{"or", 1, api.NodeOr}, {"and", 2, api.NodeAnd}}
	comparisons = []binary{{"<", 1, api.NodeLess}, {"=", 1, api.NodeEqual}}
)

func exists(s string) api.Node { return node(api.NodeExists, named(s)) }

// Each operator beside each other, without parentheses and with them around the first two operands and around the last two.
func TestP19_1EachOperatorBesideEach(t *testing.T) {
	check := func(ahead string, tail string, clause func(n api.Node) api.Node, operators []binary, texts []string, a, b, c api.Node) {
		for _, one := range operators {
			for _, two := range operators {
				left := clause(node(two.kind, node(one.kind, a, b), c))
				right := clause(node(one.kind, a, node(two.kind, b, c)))
				plain := left
				if two.rank > one.rank {
					plain = right
				}
				text := strings.NewReplacer("A", texts[0], "B", texts[1], "C", texts[2], "1", one.text, "2", two.text)
				checkMeans(t, ahead+text.Replace("A 1 B 2 C")+tail, plain)
				checkMeans(t, ahead+text.Replace("(A 1 B) 2 C")+tail, left)
				checkMeans(t, ahead+text.Replace("A 1 (B 2 C)")+tail, right)
				checkMeans(t, ahead+text.Replace("(((A) 1 (B)) 2 ((C)))")+tail, left)
				checkMeans(t, ahead+text.Replace("((A) 1 ((B) 2 (C)))")+tail, right)
			}
		}
	}
	free, size := node(api.NodeFree), node(api.NodeSize, named("q"))
	check("let x = ", ";", lets, sums, []string{"7", "y", "free()"}, number(7), word("y"), free)
	check("let x = ", ";", lets, sums, []string{"size(q)", "min(7)", "y"}, size, node(api.NodeMin, number(7)), word("y"))
	check("when ", "{ }", whens, junctions, []string{"exists(a)", "exists(b)", "exists(c)"}, exists("a"), exists("b"), exists("c"))
	check("when ", "{ }", whens, junctions, []string{"not exists(a)", "7 < y", "not not exists(c)"},
		node(api.NodeNot, exists("a")), node(api.NodeLess, number(7), word("y")), node(api.NodeNot, node(api.NodeNot, exists("c"))))
}

// Numbers bind closer than comparisons, these closer than not, that closer than and, and that closer than or.
func TestP19_1EachRuleBelowEach(t *testing.T) {
	for _, c := range comparisons {
		for _, s := range sums {
			sum := node(s.kind, number(1), number(2))
			checkMeans(t, "when 1 "+s.text+" 2 "+c.text+" 3 { }", whens(node(c.kind, sum, number(3))))
			checkMeans(t, "when 3 "+c.text+" 1 "+s.text+" 2 { }", whens(node(c.kind, number(3), sum)))
			checkMeans(t, "when (1 "+s.text+" 2) "+c.text+" (3) { }", whens(node(c.kind, sum, number(3))))
			checkMeans(t, "when (3 "+c.text+" (1 "+s.text+" 2)) { }", whens(node(c.kind, number(3), sum)))
		}
		compared := node(c.kind, number(1), number(2))
		text := "1 " + c.text + " 2"
		checkMeans(t, "when not "+text+" { }", whens(node(api.NodeNot, compared)))
		checkMeans(t, "when not ("+text+") { }", whens(node(api.NodeNot, compared)))
		checkMeans(t, "when (not "+text+") { }", whens(node(api.NodeNot, compared)))
		for _, j := range junctions {
			checkMeans(t, "when "+text+" "+j.text+" exists(a) { }", whens(node(j.kind, compared, exists("a"))))
			checkMeans(t, "when exists(a) "+j.text+" "+text+" { }", whens(node(j.kind, exists("a"), compared)))
			checkMeans(t, "when not "+text+" "+j.text+" exists(a) { }", whens(node(j.kind, node(api.NodeNot, compared), exists("a"))))
			checkMeans(t, "when not ("+text+" "+j.text+" exists(a)) { }", whens(node(api.NodeNot, node(j.kind, compared, exists("a")))))
			checkMeans(t, "when exists(a) "+j.text+" not "+text+" { }", whens(node(j.kind, exists("a"), node(api.NodeNot, compared))))
		}
	}
}

// A chain of operators of one rule leans to the left, however long it is.
func TestP19_1ChainsLeanToTheLeft(t *testing.T) {
	for _, operators := range [][]binary{sums[:2], sums[2:], sums[:1], sums[3:4]} {
		want, text := number(0), "0"
		for i := range 50 {
			o := operators[i%len(operators)]
			want = node(o.kind, want, number(i))
			text += fmt.Sprint(o.text, i)
		}
		checkMeans(t, "let x = "+text+";", lets(want))
	}
	for _, o := range junctions {
		want, text := exists("a"), "exists(a)"
		for range 50 {
			want = node(o.kind, want, exists("a"))
			text += " " + o.text + " exists(a)"
		}
		checkMeans(t, "when "+text+" { }", whens(want))
	}
	checkMeans(t, "when exists(a) and exists(b) or exists(c) and exists(d) or exists(e) { }",
		whens(node(api.NodeOr, node(api.NodeOr, node(api.NodeAnd, exists("a"), exists("b")), node(api.NodeAnd, exists("c"), exists("d"))), exists("e"))))
	checkMeans(t, "let x = 1 + 2 * 3 % 4 - 5 / 6;",
		lets(node(api.NodeSub, node(api.NodeAdd, number(1), node(api.NodeRem, node(api.NodeMul, number(2), number(3)), number(4))), node(api.NodeDiv, number(5), number(6)))))
}

func TestP19_1Calls(t *testing.T) {
	checkMeans(t, "let x = min(1);", lets(node(api.NodeMin, number(1))))
	checkMeans(t, "let x = max(1, 2 + y, min(3, 4));", lets(node(api.NodeMax, number(1), node(api.NodeAdd, number(2), word("y")), node(api.NodeMin, number(3), number(4)))))
	checkMeans(t, "let x = max((1));", lets(node(api.NodeMax, number(1))))
	checkMeans(t, "let x = free ( );", lets(node(api.NodeFree)))
	checkMeans(t, `let x = size("a b");`, lets(node(api.NodeSize, named("a b"))))
	checkMeans(t, `let x = size("a${1}");`, lets(node(api.NodeSize, name(text("a"), number(1)))))
	checkMeans(t, `when exists("") { }`, whens(node(api.NodeExists, name())))
	checkMeans(t, "let x = "+strings.Repeat("(", 5000)+"1"+strings.Repeat(")", 5000)+";", lets(number(1)))
	checkMeans(t, "let x = min("+strings.Repeat("1,", 8000)+"1);", lets(node(api.NodeMin, repeated(number(1), 8001)...)))
	for _, c := range []struct{ text, marked string }{
		{"let x = min;", "           ^"},
		{"let x = min 1;", "            ^"},
		{"let x = min();", "            ^"},
		{"let x = max(,1);", "            ^"},
		{"let x = max(1,);", "              ^"},
		{"let x = max(1 2);", "              ^"},
		{"let x = max(1;", "             ^"},
		{"let x = max(1},2);", "             ^"},
		{"let x = free;", "            ^"},
		{"let x = free(1);", "             ^"},
		{"let x = free(a);", "             ^"},
		{"let x = free(;", "             ^"},
		{"let x = size a;", "             ^"},
		{"let x = size();", "             ^"},
		{"let x = size(1);", "             ^"},
		{"let x = size(a, b);", "              ^"},
		{"let x = size((a));", "             ^"},
		{"let x = size(a + b);", "               ^"},
		{"when exists() { }", "            ^"},
		{"when exists a { }", "            ^"},
		{"when exists(a { }", "              ^"},
		{"let x = ();", "         ^"},
		{"let x = (1;", "          ^"},
		{"let x = (1 2);", "           ^"},
		{"let x = (1));", "           ^"},
		{"let x = 1);", "         ^"},
		{"let x = 1 (2);", "          ^"},
		{"let x = y(2);", "         ^"},
		{"let x = -1;", "        ^"},
		{"let x = 1 + -1;", "            ^"},
		{"let x = 1 + + 1;", "            ^"},
		{"let x = * 1;", "        ^"},
		{"let x = 1 +;", "           ^"},
		{"let x = 1 * / 2;", "            ^"},
		{"let x = 1, 2;", "         ^"},
		{"when 1 < < 2 { }", "         ^"},
		{"when 1 < = 2 { }", "         ^"},
		{"when 1 = = 2 { }", "         ^"},
		{"when not { }", "         ^"},
		{"when exists(a) not { }", "               ^"},
		{"when exists(a) or or exists(b) { }", "                  ^"},
		{"when exists(a) and { }", "                   ^"},
		{"when and exists(a) { }", "     ^"},
		{"when 1 < not 2 { }", "         ^"},
		{"let x = 1 + not 2;", "            ^"},
	} {
		checkMark(t, c.text, c.marked, api.ErrSyntaxToken)
	}
}

// repeated gives so many of a node.
func repeated(n api.Node, count int) []api.Node {
	out := make([]api.Node, count)
	for i := range out {
		out[i] = n
	}
	return out
}

// A comparison is no chain: the second operator is a token that cannot stand there, unless the first one's sort was wrong already.
func TestP19_1ComparisonsAreNoChain(t *testing.T) {
	for _, one := range comparisons {
		for _, two := range comparisons {
			pair := strings.NewReplacer("<", one.text, "=", two.text)
			for _, c := range []struct{ text, marked string }{
				{"when 1 < 2 = 3 { }", "           ^"},
				{"when not 1 < 2 = 3 { }", "               ^"},
				{"when exists(a) or 1 < 2 = 3 { }", "                        ^"},
				{"when (1 < 2 = 3) { }", "            ^"},
				{"when (1 < 2) = 3 { }", "      ^"},
				{"when 1 < (2 = 3) { }", "          ^"},
				{"when max(1 < 2 = 3) { }", "         ^"},
			} {
				checkMark(t, pair.Replace(c.text), c.marked, api.ErrSyntaxToken)
			}
		}
	}
	checkToken(t, "let x = 1 < 2 < 3;", 8)
}

// operand is a text that stands as an operand, and how far behind its beginning its own place is.
type operand struct {
	text string
	at   int
}

var wrongConditions = []operand{{"exists(a)", 0}, {"(1 < 2)", 1}, {"((1 = 2))", 2}, {"(not exists(a))", 1}, {"(exists(a) or 1 < 2)", 1}, {"(1 + 2 < 3 and exists(a))", 1}, {"((1) < 2)", 2}}

var wrongNumbers = []operand{{"1", 0}, {"y", 0}, {"(1)", 1}, {"1 + 2", 0}, {"(1 + 2) * 3", 1}, {"2 * (1 - y)", 0}, {"min(1)", 0}, {"max(1, 2)", 0}, {"size(a)", 0}, {"free()", 0}, {"((7 % 2))", 2}}

// Operands of + - * / % < = have to be numbers, those of or, and, not conditions: ahead of each and behind it.
func TestP19_1OperandsOfTheWrongSort(t *testing.T) {
	for _, o := range append(sums, comparisons...) {
		for _, w := range wrongConditions {
			for _, ahead := range []string{"let x = ", "when ", "keep 1 + (", "let x = min("} {
				checkToken(t, ahead+w.text+" "+o.text+" 3 ;", len(ahead)+w.at)
				checkToken(t, ahead+w.text+" "+o.text, len(ahead)+w.at) // ahead of what stands behind the operator
				checkToken(t, ahead+w.text+" "+o.text+" ;", len(ahead)+w.at)
				behind := ahead + "3 " + o.text + " "
				checkToken(t, behind+w.text+" ;", len(behind)+w.at)
				checkToken(t, behind+w.text, len(behind)+w.at) // ahead of the token that is wanted behind it
				checkToken(t, behind+w.text+" let", len(behind)+w.at)
				checkToken(t, ahead+w.text+" "+o.text+" "+w.text+";", len(ahead)+w.at)
			}
		}
	}
	for _, o := range junctions {
		for _, w := range wrongNumbers {
			for _, ahead := range []string{"when ", "let x = ", "when (", "when not ("} {
				checkToken(t, ahead+w.text+" "+o.text+" exists(a) {", len(ahead)+w.at)
				checkToken(t, ahead+w.text+" "+o.text, len(ahead)+w.at)
				checkToken(t, ahead+w.text+" "+o.text+" ;", len(ahead)+w.at)
				behind := ahead + "exists(a) " + o.text + " "
				checkToken(t, behind+w.text+" {", len(behind)+w.at)
				checkToken(t, behind+w.text, len(behind)+w.at)
				checkToken(t, behind+w.text+" let", len(behind)+w.at)
				checkToken(t, behind+w.text+" or", len(behind)+w.at)
				checkToken(t, behind+w.text+" and", len(behind)+w.at)
			}
		}
	}
	for _, w := range wrongNumbers {
		for _, ahead := range []string{"when not ", "let x = not ", "when not not ", "when exists(a) and not ", "when (not "} {
			for _, tail := range []string{" { }", "", " ;", " and", ")"} {
				checkToken(t, ahead+w.text+tail, len(ahead)+w.at)
			}
		}
	}
}

// What a clause asks for, and an argument, is looked at when it ends, ahead of the token behind it.
func TestP19_1WhatIsAskedForOfTheWrongSort(t *testing.T) {
	more := []operand{{"not exists(a)", 0}, {"1 + 1 < 2", 0}, {"exists(a) and exists(b) or (exists(c))", 0}}
	for _, w := range append(more, wrongConditions...) {
		for _, ahead := range []string{"let x = ", "volume a size ", "volume a from b size ", "keep ", "repeat i ", "repeat i 1 to ", "let x = min(", "let x = max(1, ", "when 1 < min("} {
			for _, tail := range []string{" ;", "", " thick", " of a;", " to", " { }", ")", ", 2)", "}", " 3", ` "a"`} {
				checkToken(t, ahead+w.text+tail, len(ahead)+w.at)
			}
		}
		for _, tail := range []string{`}";`, ` }" x`, ` 3}";`, ` )}";`, `#}";`} {
			checkToken(t, `absent "${`+w.text+tail, 10+w.at)
		}
	}
	for _, w := range wrongNumbers {
		for _, tail := range []string{" { }", "", " }", " 3", ` "a"`, " ;", " exists(a)", ")"} {
			checkToken(t, "when "+w.text+tail, len("when ")+w.at)
		}
	}
}

// Which of two errors stands first.
func TestP19_1TheFirstOfTwo(t *testing.T) {
	for _, c := range []struct{ text, marked string }{
		// The operand ahead of an operator, ahead of what stands behind it.
		{"when 1 or 2 { }", "     ^"},
		{"let x = exists(a) + (1 < 2);", "        ^"},
		// An operand goes on as long as it can: so a token that is wanted there is missed first.
		{"let x = exists(a) or;", "                    ^"},
		{"let x = exists(a) and ;", "                      ^"},
		{"let x = 1 < ;", "            ^"},
		{"when 1 + ;", "         ^"},
		{"when not 1 * ) { }", "             ^"},
		{"let x = not ;", "            ^"},
		{"let x = (1 < 2;", "              ^"},
		{"let x = (exists(a) 1", "                   ^"},
		{"let x = min((1 < 2;", "                  ^"},
		// The operand of the deeper rule is asked first.
		{"let x = 1 + 2 * (1 < 2) < 3;", "                 ^"},
		{"when 1 and 2 + exists(a) { }", "     ^"},
		{"when exists(a) and 2 + exists(a) { }", "                       ^"},
		{"when 1 + exists(a) or exists(b) { }", "         ^"},
		{"let x = min(1 < 2, exists(a));", "            ^"},
		{"let x = min(1, exists(a), 1 < 2);", "               ^"},
		// Parentheses ask for no sort.
		{"let x = (1 < 2) ;", "         ^"},
		{"let x = ((1 < 2) ;", "                 ^"},
		// What stands ahead in the text, and not ahead in the kids.
		{"volume a from 1 size 1 < 2;", "              ^"},
		{"volume a from b size 1 < 2 thicker;", "                     ^"},
		{"repeat i 1 < 2 to 3 < 4 { }", "         ^"},
		{"keep 1 < 2 of of;", "     ^"},
		{"when 1 { ; }", "     ^"},
		{"when exists(of) or 1 { }", "            ^"},
	} {
		checkMark(t, c.text, c.marked, api.ErrSyntaxToken)
	}
	checkNoParse(t, "let x = exists(a) or", 20, api.ErrSyntaxEnd)
	checkNoParse(t, "let x = (1 < 2", 14, api.ErrSyntaxEnd)
	checkNoParse(t, "when 1 +", 8, api.ErrSyntaxEnd)
	checkToken(t, "let x = 1 < 2", 8)
	checkToken(t, "when 1", 5)
}
