package syntax_test

import (
	"fmt"
	"strings"
	"testing"

	"cistern/api"
	"cistern/syntax"
)

func TestP19_1NamesOfParts(t *testing.T) {
	for _, c := range []struct{ text, want string }{
		{`absent "";`, "name@7"},
		{`absent "a";`, "name@7(text'a'@8)"},
		{`absent " ";`, "name@7(text' '@8)"},
		{`absent "a b#c;'(";`, "name@7(text'a b#c;''('@8)"},
		{`absent "${1}";`, "name@7(number#1@10)"},
		{`absent "${i}";`, "name@7(word'i'@10)"},
		{`absent "${1}${2}";`, "name@7(number#1@10 number#2@14)"},
		{`absent "a${1}";`, "name@7(text'a'@8 number#1@11)"},
		{`absent "${1}a";`, "name@7(number#1@10 text'a'@12)"},
		{`absent "ab${1}c${ 2 }${3}de";`, "name@7(text'ab'@8 number#1@12 text'c'@14 number#2@18 number#3@23 text'de'@25)"},
		{`absent "1${a}2";`, "name@7(text'1'@8 word'a'@11 text'2'@13)"},
		{`absent "${1+2*i}";`, "name@7(add@10(number#1@10 mul@12(number#2@12 word'i'@14)))"},
		{`absent "${(1)}";`, "name@7(number#1@11)"},
		{`absent "${ ((1)+(2)) }";`, "name@7(add@13(number#1@13 number#2@17))"},
		{`absent "x${((1+2))*3}";`, "name@7(text'x'@8 mul@13(add@13(number#1@13 number#2@15) number#3@19))"},
		{`absent "${size(a)}";`, "name@7(size@10(name@15(text'a'@15)))"},
		{`absent "${free()}";`, "name@7(free@10)"},
		{`absent "${min(1,size(b),max(i))}";`, "name@7(min@10(number#1@14 size@16(name@21(text'b'@21)) max@24(word'i'@28)))"},
		{`absent "${1#2}";`, "name@7(number#1@10)"},
		{`absent "${1 #}a";`, "name@7(number#1@10 text'a'@14)"},
		{`absent "${2K}";`, "name@7(number#2048@10)"},
	} {
		checkParse(t, c.text, "plan@0(absent@0("+c.want+"))")
	}
}

// Runs and numbers in every order, in every place where a name may stand.
func TestP19_1PartsInEveryOrder(t *testing.T) {
	var all func(body string, want api.Node, more int)
	all = func(body string, want api.Node, more int) {
		checkMeans(t, `absent "`+body+`";`, plan(absent(want)))
		checkMeans(t, `rename "`+body+`" to b;`, plan(node(api.NodeRename, want, named("b"))))
		checkMeans(t, `rename a to "`+body+`";`, plan(node(api.NodeRename, named("a"), want)))
		checkMeans(t, `snapshot of "`+body+`";`, plan(node(api.NodeSnap, want)))
		checkMeans(t, `keep 1 of "`+body+`";`, plan(node(api.NodeKeep, number(1), want)))
		checkMeans(t, `volume "`+body+`" from "`+body+`" size 1;`, plan(node(api.NodeVolume, want, number(1), want)))
		checkMeans(t, `let x = size("`+body+`");`, lets(node(api.NodeSize, want)))
		checkMeans(t, `when exists("`+body+`") { }`, whens(node(api.NodeExists, want)))
		if more == 0 {
			return
		}
		kids := func(n api.Node) api.Node { return name(append(append([]api.Node{}, want.Kids...), n)...) }
		all(body+"${7}", kids(number(7)), more-1)
		all(body+"${size(q)-i}", kids(node(api.NodeSub, node(api.NodeSize, named("q")), word("i"))), more-1)
		if len(want.Kids) == 0 || want.Kids[len(want.Kids)-1].Kind != api.NodeText {
			all(body+"a-1", kids(text("a-1")), more-1)
		}
	}
	all("", name(), 4)
}

// A word and the same word in quotes are the same name, but for places.
func TestP19_1WordsAndQuotes(t *testing.T) {
	for _, w := range []string{"a", "_", "x9", "Abc"} {
		checkParse(t, "absent "+w+";", fmt.Sprintf("plan@0(absent@0(name@7(text'%s'@7)))", w))
		checkParse(t, `absent "`+w+`";`, fmt.Sprintf("plan@0(absent@0(name@7(text'%s'@8)))", w))
	}
}

func TestP19_1NamesThatAreRefused(t *testing.T) {
	for _, c := range []struct {
		text, marked string
		want         api.Errno
	}{
		// Nothing, or nothing more, ahead of the closing brace.
		{`absent "${}";`, "          ^", api.ErrSyntaxEnd},
		{`absent "a${}b";`, "           ^", api.ErrSyntaxEnd},
		{`absent "${  }";`, "            ^", api.ErrSyntaxEnd},
		{`absent "${#1}";`, "            ^", api.ErrSyntaxEnd},
		{`absent "${1+}";`, "            ^", api.ErrSyntaxEnd},
		{`absent "${1+ }" x`, "             ^", api.ErrSyntaxEnd},
		{`absent "${(1}";`, "            ^", api.ErrSyntaxEnd},
		{`absent "${min(1,}";`, "                ^", api.ErrSyntaxEnd},
		{`absent "${size(}";`, "               ^", api.ErrSyntaxEnd},
		{`absent "${1}${}";`, "              ^", api.ErrSyntaxEnd},
		// A token that cannot stand there.
		{`absent "${1 2}";`, "            ^", api.ErrSyntaxToken},
		{`absent "${1;}";`, "           ^", api.ErrSyntaxToken},
		{`absent "${;}";`, "          ^", api.ErrSyntaxToken},
		{`absent "${of}";`, "          ^", api.ErrSyntaxToken},
		{`absent "${a b}";`, "            ^", api.ErrSyntaxToken},
		{`absent "${1)}";`, "           ^", api.ErrSyntaxToken},
		{`absent "${()}";`, "           ^", api.ErrSyntaxToken},
		{`absent "${size(1)}";`, "               ^", api.ErrSyntaxToken},
		{`absent "${size(of)}";`, "               ^", api.ErrSyntaxToken},
		{`absent "${1 + + 1}";`, "              ^", api.ErrSyntaxToken},
		{`absent "${exact;}";`, "          ^", api.ErrSyntaxToken},
		// A condition.
		{`absent "${1<2}";`, "          ^", api.ErrSyntaxToken},
		{`absent "${(1<2)}";`, "           ^", api.ErrSyntaxToken},
		{`absent "${exists(a)}";`, "          ^", api.ErrSyntaxToken},
		{`absent "${not exists(a)}";`, "          ^", api.ErrSyntaxToken},
		{`absent "${1 + (2 = 3)}";`, "               ^", api.ErrSyntaxToken},
		{`absent "${1<2 3}";`, "          ^", api.ErrSyntaxToken},
		// What layer 18 says of what stands there, ahead of what the grammar does.
		{`absent "${9x}";`, "          ^", api.ErrLexNumber},
		{`absent "${1+ 9x}";`, "             ^", api.ErrLexNumber},
		{`absent "${; 9x}";`, "            ^", api.ErrLexNumber},
		{`absent "${1048577M}";`, "          ^", api.ErrLexNumber},
		{`absent "${!}";`, "          ^", api.ErrLexByte},
		{`absent "${a.b}";`, "           ^", api.ErrLexByte},
		{`absent "a${1}${ ~ }";`, "                ^", api.ErrLexByte},
		// The first part that is wrong.
		{`absent "${1 2}${9x}";`, "            ^", api.ErrSyntaxToken},
		{`absent "${}${9x}";`, "          ^", api.ErrSyntaxEnd},
		{`absent "${9x}${}";`, "          ^", api.ErrLexNumber},
		{`absent "${1}${1<2}${}";`, "              ^", api.ErrSyntaxToken},
		// As soon as the name's token is read: ahead of what stands behind it, and behind what stands ahead.
		{`absent "${}" "${9x}";`, "          ^", api.ErrSyntaxEnd},
		{`absent "${}"`, "          ^", api.ErrSyntaxEnd},
		{`rename "${1 2}" to of;`, "            ^", api.ErrSyntaxToken},
		{`rename of to "${9x}";`, "       ^", api.ErrSyntaxToken},
		{`volume "${1}" from "${}" size "";`, "                      ^", api.ErrSyntaxEnd},
		{`keep 1 < 2 of "${}";`, "     ^", api.ErrSyntaxToken},
		{`let x = size("${}";`, "                ^", api.ErrSyntaxEnd},
		{`let x = size("a" "${}");`, "                 ^", api.ErrSyntaxToken},
		// The whole text is cut into tokens first.
		{`absent "${}"; 9x`, "              ^", api.ErrLexNumber},
		{`absent "${}`, "       ^", api.ErrLexQuote},
		// No quotes, and no braces, within.
		{`absent "${size("a")}";`, "               ^", api.ErrLexQuote},
		{`absent "${size(${1})}";`, "               ^", api.ErrLexQuote},
		{`absent "${{1}}";`, "          ^", api.ErrLexQuote},
		{`absent "$1";`, "        ^", api.ErrLexQuote},
		{"absent \"${1\n}\";", "           ^", api.ErrLexQuote},
	} {
		checkMark(t, c.text, c.marked, c.want)
	}
	checkMeans(t, `absent "${size(a)}";`, plan(absent(name(node(api.NodeSize, named("a"))))))
}

// Too many tokens within a name are told where they stand.
func TestP19_1ManyTokensWithinAName(t *testing.T) {
	const ahead = `absent "${`
	many := strings.Repeat("(", mostTokens/2-1)
	closed := strings.Repeat(")", mostTokens/2-1)
	checkMeans(t, ahead+many+"1"+closed+`}";`, plan(absent(name(number(1)))))
	checkNoParse(t, ahead+many+"(1))"+closed+`}";`, len(ahead)+mostTokens, api.ErrLexMany)
	checkNoParse(t, ahead+strings.Repeat(";", mostTokens)+` ;}";`, len(ahead)+mostTokens+1, api.ErrLexMany)
	checkNoParse(t, ahead+strings.Repeat(";", mostTokens)+`#}";`, len(ahead), api.ErrSyntaxToken)
	checkNoParse(t, `exact; rename "a${1}" to "b${`+strings.Repeat(";", mostTokens)+` ;}";`, 29+mostTokens+1, api.ErrLexMany)
}

func TestP19_1ErrorsOfTheTokens(t *testing.T) {
	for _, c := range []struct {
		text string
		at   int
		want api.Errno
	}{
		{"!", 0, api.ErrLexByte},
		{"exact; ?", 7, api.ErrLexByte},
		{"; ?", 2, api.ErrLexByte}, // ahead of what the grammar says
		{"absent of \xff", 10, api.ErrLexByte},
		{"let x = 9x;", 8, api.ErrLexNumber},
		{"let x = 1099511627777;", 8, api.ErrLexNumber},
		{"absent \"a", 7, api.ErrLexQuote},
		{"absent \"a\n\";", 9, api.ErrLexQuote},
		{"absent \"a$\";", 9, api.ErrLexQuote},
		{strings.Repeat(";", mostTokens) + " ;", mostTokens + 1, api.ErrLexMany},
		{strings.Repeat(" ", mostText) + " ", 0, api.ErrLexLong},
		{strings.Repeat("!", mostText+1), 0, api.ErrLexLong},
	} {
		checkNoParse(t, c.text, c.at, c.want)
	}
	checkParse(t, strings.Repeat(" ", mostText), "plan@0")
	checkMeans(t, strings.Repeat("exact;", mostTokens/2), plan(repeated(node(api.NodeExact), mostTokens/2)...))
	checkNoParse(t, strings.Repeat("exact;", mostTokens/2)+"exact;", mostTokens/2*6, api.ErrLexMany)
	checkNoParse(t, "absent"+strings.Repeat(" ", mostText-6), mostText, api.ErrSyntaxEnd)
}

// checkPlaces holds that every node of a text's tree stands where its first byte does.
func checkPlaces(t *testing.T, text string, n api.Node) {
	t.Helper()
	begins := map[int]string{2: "let", 3: "volume", 4: "snapshot", 5: "keep", 6: "absent", 7: "rename", 8: "exact", 9: "repeat", 10: "when", 11: "{", 27: "min", 28: "max", 29: "size", 30: "free", 33: "exists", 34: "not"}
	begin, ok := begins[n.Kind]
	switch {
	case n.Kind == api.NodePlan:
		ok, begin = n.At == 0, ""
	case n.Kind == api.NodeText, n.Kind == api.NodeWord:
		ok, begin = true, n.Text
	case n.Kind == api.NodeNumber:
		ok, begin = true, fmt.Sprint(n.Number)
	case n.Kind == api.NodeName && strings.HasPrefix(text[n.At:], `"`):
		ok, begin = len(n.Kids) == 0 || n.Kids[0].At > n.At, `"`
	case n.Kind == api.NodeName:
		ok, begin = len(n.Kids) == 1 && n.Kids[0].At == n.At, ""
	case !ok:
		ok, begin = len(n.Kids) == 2 && n.At == n.Kids[0].At, ""
	}
	if !ok || !strings.HasPrefix(text[n.At:], begin) {
		t.Fatalf("Parse(%q): %s does not stand at %d", text, shown(n), n.At)
	}
	for _, kid := range n.Kids {
		checkPlaces(t, text, kid)
	}
}

func TestP19_1PlacesOfAllNodes(t *testing.T) {
	for _, c := range []struct{ text, want string }{
		{" let x = ((1) + (2)) * (3);", "plan@0(let'x'@1(mul@11(add@11(number#1@11 number#2@17) number#3@24)))"},
		{"when ((not (exists(a)))) { }", "plan@0(when@0(not@7(exists@12(name@19(text'a'@19))) block@25))"},
		{"when (((1)) < (2)) and (exists(a)) { }", "plan@0(when@0(and@8(less@8(number#1@8 number#2@15) exists@24(name@31(text'a'@31))) block@35))"},
		{"when not (1 < 2) or 3 = (4) { }", "plan@0(when@0(or@5(not@5(less@10(number#1@10 number#2@14)) equal@20(number#3@20 number#4@25)) block@28))"},
		{"let x = (((1)));", "plan@0(let'x'@0(number#1@11))"},
		{"let x = min ( (1) , ( 2 ) );", "plan@0(let'x'@0(min@8(number#1@15 number#2@22)))"},
		{"let x = ( max(1) );", "plan@0(let'x'@0(max@10(number#1@14)))"},
		{"let x = ( size ( a ) ) / (free());", "plan@0(let'x'@0(div@10(size@10(name@17(text'a'@17)) free@26)))"},
		{"keep (2) of\n\"b\";", "plan@0(keep@0(number#2@6 name@12(text'b'@13)))"},
		{"repeat i (0) to (1) \n { exact; }", "plan@0(repeat'i'@0(number@10 number#1@17 block@22(exact@24)))"},
		{"#1\n#2\nabsent \"a${(i)}b${ ((2)%i) }\";", "plan@0(absent@6(name@13(text'a'@14 word'i'@18 text'b'@21 rem@27(number#2@27 word'i'@30))))"},
		{"let x = 1 - 2 - 3;", "plan@0(let'x'@0(sub@8(sub@8(number#1@8 number#2@12) number#3@16)))"},
		{"let x = 1 - (2 - 3);", "plan@0(let'x'@0(sub@8(number#1@8 sub@13(number#2@13 number#3@17))))"},
	} {
		checkParse(t, c.text, c.want)
	}
	d := &drawing{seed: 21}
	for range 400 {
		text := d.spread(least(d.plan(6 + d.below(5))))
		n, _, e := syntax.Parse([]byte(text))
		if e != api.OK {
			t.Fatalf("Parse(%q) = %d", text, e)
		}
		checkPlaces(t, text, n)
	}
}
