package syntax_test

import (
	"slices"
	"strings"
	"testing"

	"cistern/api"
	"cistern/syntax"
)

func TestP19_1EachClause(t *testing.T) {
	for _, c := range []struct{ text, want string }{
		{"let x = 1;", "plan@0(let'x'@0(number#1@8))"},
		{"let _9Z = y;", "plan@0(let'_9Z'@0(word'y'@10))"},

		{"volume a size 0;", "plan@0(volume@0(name@7(text'a'@7) number@14))"},
		{"volume a from b size 1;", "plan@0(volume@0(name@7(text'a'@7) number#1@21 name@14(text'b'@14)))"},
		{"volume a size 1 thick;", "plan@0(volume#1@0(name@7(text'a'@7) number#1@14))"},
		{"volume a from b size 1 thick;", "plan@0(volume#1@0(name@7(text'a'@7) number#1@21 name@14(text'b'@14)))"},
		{`volume "a"from"b"size(1)thick;`, "plan@0(volume#1@0(name@7(text'a'@8) number#1@22 name@14(text'b'@15)))"},

		{"snapshot of a;", "plan@0(snap@0(name@12(text'a'@12)))"},
		{`snapshot of "";`, "plan@0(snap@0(name@12))"},

		{"keep 3 of a;", "plan@0(keep@0(number#3@5 name@10(text'a'@10)))"},

		{"absent a;", "plan@0(absent@0(name@7(text'a'@7)))"},
		{`absent "a b";`, "plan@0(absent@0(name@7(text'a b'@8)))"},

		{"rename a to b;", "plan@0(rename@0(name@7(text'a'@7) name@12(text'b'@12)))"},

		{"exact;", "plan@0(exact@0)"},

		{"repeat i 1 to 2 { }", "plan@0(repeat'i'@0(number#1@9 number#2@14 block@16))"},
		{"repeat i 1 to 2 { exact; absent a; }", "plan@0(repeat'i'@0(number#1@9 number#2@14 block@16(exact@18 absent@25(name@32(text'a'@32)))))"},

		{"when 1 < 2 { }", "plan@0(when@0(less@5(number#1@5 number#2@9) block@11))"},
		{"when 1 < 2 { } else { }", "plan@0(when@0(less@5(number#1@5 number#2@9) block@11 block@20))"},
		{"when 1 = 2 { exact; } else { exact; exact; }", "plan@0(when@0(equal@5(number#1@5 number#2@9) block@11(exact@13) block@27(exact@29 exact@36)))"},

		{"exact; exact;", "plan@0(exact@0 exact@7)"},
		{"\n# first\n exact ;\texact;#", "plan@0(exact@10 exact@18)"},
		{"when exists(a) { when exists(b) { } } exact;", "plan@0(when@0(exists@5(name@12(text'a'@12)) block@15(when@17(exists@22(name@29(text'b'@29)) block@32))) exact@38)"},
		{"", "plan@0"}, {" \t\r\n", "plan@0"}, {"# x", "plan@0"},
	} {
		checkParse(t, c.text, c.want)
	}
	checkNoParse(t, `volume "a"from"b"size 1thick;`, 22, api.ErrLexNumber)
	checkToken(t, "\n# first\n exact ;;", 17)
}

// forms are the clauses, each with and without each part that may be left out, and for each token that is struck or doubled which
// token is refused: it is the one behind the struck one, and the doubled one's second, but for those that are named here.
var forms = []struct {
	text    string
	struck  map[int]int
	doubled map[int]int
}{
	{text: "let x = 1 ;"},
	{text: "volume a size 1 ;", doubled: map[int]int{2: 4}}, // size 1: a call without its parenthesis
	{text: "volume a from b size 1 ;", doubled: map[int]int{4: 6}},
	{text: "volume a size 1 thick ;", struck: map[int]int{4: none}, doubled: map[int]int{2: 4}},
	{text: "volume a from b size 1 thick ;", struck: map[int]int{6: none}, doubled: map[int]int{4: 6}},
	{text: "snapshot of a ;"},
	{text: "keep 1 of a ;"},
	{text: "absent a ;"},
	{text: "rename a to b ;"},
	{text: "exact ;"},
	{text: "repeat i 1 to 2 { }", doubled: map[int]int{1: 3}}, // the second i is the number
	{text: "repeat i 1 to 2 { exact ; }", doubled: map[int]int{1: 3}},
	{text: "when 1 < 2 { }", struck: map[int]int{2: 1}, doubled: map[int]int{1: 1}}, // the 1 that ends is no condition
	{text: "when 1 < 2 { } else { }", struck: map[int]int{2: 1}, doubled: map[int]int{1: 1}},
	{text: "when 1 < 2 { exact ; } else { absent a ; exact ; }", struck: map[int]int{2: 1}, doubled: map[int]int{1: 1}},
}

// none is the token that is refused where none is.
const none = -1

// checkRefused holds that tokens are refused for the one of a place; the one behind them all is the end.
func checkRefused(t *testing.T, words []string, refused int) {
	t.Helper()
	text := strings.Join(words, " ")
	switch {
	case refused == none:
		if n, at, e := syntax.Parse([]byte(text)); n.Kind != api.NodePlan || at != 0 || e != api.OK {
			t.Errorf("Parse(%s) = %s", text, told(n, at, e))
		}
	case refused == len(words):
		checkNoParse(t, text, len(text), api.ErrSyntaxEnd)
	default:
		checkToken(t, text, len(strings.Join(words[:refused], " "))+min(refused, 1))
	}
}

func TestP19_1EachTokenStruck(t *testing.T) {
	for _, f := range forms {
		words := strings.Fields(f.text)
		for i := range words {
			refused, ok := f.struck[i]
			if !ok {
				refused = i
			}
			checkRefused(t, slices.Concat(words[:i], words[i+1:]), refused)
		}
	}
}

func TestP19_1EachTokenDoubled(t *testing.T) {
	for _, f := range forms {
		words := strings.Fields(f.text)
		checkRefused(t, words, none)
		for i, word := range words {
			refused, ok := f.doubled[i]
			if !ok {
				refused = i + 1
			}
			checkRefused(t, slices.Concat(words[:i], []string{word}, words[i:]), refused)
		}
	}
}

// tokens are one of each kind, and each that is told apart.
func tokens() []string {
	return slices.Concat(reserved, strings.Split(";{}(),=<+-*/%", ""), []string{"a", "_", "7", "1K", `""`, `"a"`, `"size"`, `"a${1}"`, `";"`})
}

// Another token in the place of each, and one more ahead of each.
func TestP19_1EachTokenAnother(t *testing.T) {
	for _, f := range forms {
		words := strings.Fields(f.text)
		for i := range words {
			for _, other := range tokens() {
				for end := i; end <= i+1; end++ {
					text := strings.Join(slices.Concat(words[:i], []string{other}, words[end:]), " ")
					if got, want := told(syntax.Parse([]byte(text))), told(modelled(text)); got != want {
						t.Errorf("Parse(%s) = %s; want %s", text, got, want)
					}
				}
			}
		}
	}
}

// A text that ends behind each token: the place is the text's end, whatever stands there.
func TestP19_1EachEnd(t *testing.T) {
	for _, f := range forms {
		words := strings.Fields(f.text)
		for i := 1; i < len(words); i++ {
			if words[i] == "else" {
				continue
			}
			if words[0] == "when" && i == 2 { // what is no condition ends there too
				checkToken(t, strings.Join(words[:i], " "), 5)
				continue
			}
			for _, tail := range []string{"", " ", "# x", "\n\n# ;\n"} {
				text := strings.Join(words[:i], " ") + tail
				checkNoParse(t, text, len(text), api.ErrSyntaxEnd)
			}
		}
	}
	checkNoParse(t, "exact; absent", 13, api.ErrSyntaxEnd)
	checkNoParse(t, "repeat i 1 to 2 { exact; # }", 28, api.ErrSyntaxEnd)
	checkNoParse(t, "when 1 < 2 { when 1 < 2 { }", 27, api.ErrSyntaxEnd)
}

// Reserved words are none that may be bound, called or named; in quotes they may be names.
func TestP19_1ReservedWords(t *testing.T) {
	if len(reserved) != 22 {
		t.Fatalf("%d words are reserved; want 22", len(reserved))
	}
	places := []struct{ ahead, tail string }{
		{"let ", " = 1;"}, {"repeat ", " 1 to 2 { }"},
		{"volume ", " size 1;"}, {"volume a from ", " size 1;"}, {"snapshot of ", ";"}, {"keep 1 of ", ";"}, {"absent ", ";"}, {"rename ", " to b;"}, {"rename a to ", ";"},
		{"let x = size(", ");"}, {"when exists(", ") { }"}, {`absent "${size(`, `)}";`},
	}
	for _, p := range places {
		for _, w := range []string{"a", "_", "Let", "sizes", "siz", "SIZE", "o", "min1", "_not"} {
			if n, at, e := syntax.Parse([]byte(p.ahead + w + p.tail)); e != api.OK {
				t.Errorf("Parse(%s) = %s", p.ahead+w+p.tail, told(n, at, e))
			}
		}
		for _, w := range reserved {
			checkToken(t, p.ahead+w+p.tail, len(p.ahead))
		}
	}
	for _, p := range places[2:11] {
		for _, w := range reserved {
			if n, at, e := syntax.Parse([]byte(p.ahead + `"` + w + `"` + p.tail)); e != api.OK {
				t.Errorf("Parse(%s) = %s", p.ahead+`"`+w+`"`+p.tail, told(n, at, e))
			}
		}
	}
	for _, p := range places[:2] {
		checkToken(t, p.ahead+`"a"`+p.tail, len(p.ahead))
	}
	for _, p := range places {
		checkToken(t, p.ahead+"1"+p.tail, len(p.ahead))
		checkToken(t, p.ahead+";"+p.tail, len(p.ahead))
		checkToken(t, p.ahead+"("+p.tail, len(p.ahead))
	}
}

// Where a number stands a reserved word is refused; one that begins a call, or not, goes on, and what follows is refused.
func TestP19_1ReservedWordsAmongNumbers(t *testing.T) {
	goesOn := strings.Fields("min max size free exists not")
	for _, p := range []struct {
		ahead, tail string
		takesNot    bool // whether a not may stand there, whatever comes of it
	}{
		{"let x = ", ";", true}, {"let x = (", ");", true}, {"let x = min(1, ", ");", true}, {"keep ", " of a;", true}, {"volume a size ", ";", true},
		{"repeat i ", " to 1 { }", true}, {"repeat i 1 to ", " { }", true}, {`absent "${`, ` +}";`, true},
		{"let x = 1 + ", ";", false}, {"let x = 2 * ", ";", false}, {"when 1 < ", " { }", false}, {`absent "${1 - `, ` +}";`, false},
	} {
		for _, w := range reserved {
			text := p.ahead + w + p.tail
			if slices.Contains(goesOn, w) && (w != "not" || p.takesNot) {
				rest := strings.TrimLeft(p.tail, " ")
				checkToken(t, text, len(text)-len(rest))
			} else {
				checkToken(t, text, len(p.ahead))
			}
		}
	}
}

// Signs are words and marks: in quotes they are names.
func TestP19_1SignsInQuotes(t *testing.T) {
	for _, c := range []struct{ text, marked string }{
		{`"exact";`, "^"},
		{`exact ";"`, "      ^"},
		{`let x "=" 1;`, "      ^"},
		{`let x = "(" 1);`, "        ^"},
		{`let x = "min"(1);`, "        ^"},
		{`let x = "y";`, "        ^"},
		{`let x = min "(" 1);`, "            ^"},
		{`let x = min(1 "," 2);`, "              ^"},
		{`let x = 1 "+" 2;`, "          ^"},
		{`when 1 < 2 "or" 1 < 2 { }`, "           ^"},
		{`when "not" 1 < 2 { }`, "     ^"},
		{`volume a "size" 1;`, "         ^"},
		{`volume a size 1 "thick";`, "                ^"},
		{`when 1 < 2 { } "else" { }`, "               ^"},
		{`repeat i 1 "to" 2 { }`, "           ^"},
		// What the name holds is not looked at, where none can stand.
		{`let x = "${9x}";`, "        ^"},
		{`exact "${}";`, "      ^"},
	} {
		checkMark(t, c.text, c.marked, api.ErrSyntaxToken)
	}
}

// Words that begin no clause, and what may stand in a block but not behind it.
func TestP19_1NoClause(t *testing.T) {
	for _, w := range tokens() {
		if slices.Contains(strings.Fields("let volume snapshot keep absent rename exact repeat when"), w) {
			continue
		}
		checkToken(t, w, 0)
		checkToken(t, "exact; "+w+" ;", 7)
		if w != "}" {
			checkToken(t, "when 1 < 2 { "+w+" ;", 13)
			checkToken(t, "when 1 < 2 { } else { exact; "+w+" }", 29)
		}
	}
	checkToken(t, "exact; }", 7)
	checkToken(t, "when 1 < 2 { } else { } else { }", 24)
	checkToken(t, "when 1 < 2 { }; else { }", 14)
	checkToken(t, "repeat i 1 to 2 { } else { }", 20)
	checkToken(t, "repeat i 1 to 2 exact;", 16)
}
