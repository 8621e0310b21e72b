package scope_test

import (
	"strings"
	"testing"

	"cistern/api"
	"cistern/scope"
)

// Where a let binds, and where it ends to bind.
func TestP20_1WhereALetBinds(t *testing.T) {
	checkUnfold(t, `let x = 7; volume v size x;`, "volume'v'#7@11")
	checkRefused(t, `let x = ^x;`, api.ErrScopeUnknown)
	checkRefused(t, `let x = 1 + min(2, ^x);`, api.ErrScopeUnknown)
	checkRefused(t, `volume v size ^x; let x = 7;`, api.ErrScopeUnknown)
	checkRefused(t, `let y = ^x; let x = 7;`, api.ErrScopeUnknown)
	checkUnfold(t, `let x = 7; let y = x + 1; let z = x + y; volume v size z;`, "volume'v'#15@41")
	checkUnfold(t, `let x = 7; exact; exact; when 1 < 2 { } repeat i 1 to 1 { } volume v size x;`, "exact@11 exact@18 volume'v'#7@60")

	// To the end of the block, and not of one around it.
	checkUnfold(t, `when 1 < 2 { let x = 7; volume v size x; }`, "volume'v'#7@24")
	checkRefused(t, `when 1 < 2 { let x = 7; } volume v size ^x;`, api.ErrScopeUnknown)
	checkRefused(t, `when 1 < 2 { let x = 7; } else { volume v size ^x; }`, api.ErrScopeUnknown)
	checkRefused(t, `when 1 < 2 { } else { let x = 7; } volume v size ^x;`, api.ErrScopeUnknown)
	checkRefused(t, `repeat i 1 to 2 { let x = 7; } volume v size ^x;`, api.ErrScopeUnknown)
	checkRefused(t, `repeat i 1 to 2 { volume v size ^x; let x = 7; }`, api.ErrScopeUnknown)
	checkRefused(t, `when 1 < 2 { when 1 < 2 { let x = 7; } volume v size ^x; }`, api.ErrScopeUnknown)

	// In blocks within, of any kind, however deep.
	checkUnfold(t, `let x = 7; when x < 8 { volume v size x; } else { volume w size x; }`, "volume'v'#7@24")
	checkUnfold(t, `let x = 7; when x < 7 { volume v size x; } else { volume w size x; }`, "volume'w'#7@50")
	checkUnfold(t, `let x = 2; repeat i x to x + 1 { volume "v${x}${i}" size x; }`, "volume'v22'#2@33 volume'v23'#2@33")
	checkUnfold(t, `let x = 7; when 1 < 2 { when 2 < 1 { } else { repeat i 1 to 1 { let y = x; volume v size y; } } }`, "volume'v'#7@75")

	// Behind a block within, what was bound around it is bound still.
	checkUnfold(t, `let x = 7; when 1 < 2 { let y = 8; } volume v size x;`, "volume'v'#7@37")
	checkUnfold(t, `let x = 7; repeat i 1 to 2 { let y = 8; } let y = 9; volume v size x + y;`, "volume'v'#16@53")
}

// Where a repeat binds, and where it ends to bind.
func TestP20_1WhereARepeatBinds(t *testing.T) {
	checkRefused(t, `repeat i ^i to 2 { }`, api.ErrScopeUnknown)
	checkRefused(t, `repeat i 1 to ^i { }`, api.ErrScopeUnknown)
	checkRefused(t, `repeat i 1 to 2 { } volume v size ^i;`, api.ErrScopeUnknown)
	checkRefused(t, `volume v size ^i; repeat i 1 to 2 { }`, api.ErrScopeUnknown)
	checkUnfold(t, `repeat i 3 to 3 { volume v size i; }`, "volume'v'#3@18")
	checkUnfold(t, `repeat i 3 to 3 { when i = 3 { volume v size i; } else { volume w size i; } }`, "volume'v'#3@31")
	checkUnfold(t, `repeat i 3 to 3 { exact; let x = i; volume v size x; }`, "exact@18 volume'v'#3@36")
	checkUnfold(t, `repeat i 1 to 2 { repeat k i to 2 { volume "v${i}${k}" size i; } }`, "volume'v11'#1@36 volume'v12'#1@36 volume'v22'#2@36")
	checkRefused(t, `repeat i 1 to 2 { repeat k 1 to 2 { } volume v size ^k; }`, api.ErrScopeUnknown)

	// Behind a block within, the outer number is as it was.
	checkUnfold(t, `repeat i 1 to 2 { repeat k 8 to 9 { } volume "v${i}" size i; }`, "volume'v1'#1@38 volume'v2'#2@38")
}

func TestP20_1BoundTwice(t *testing.T) {
	for _, text := range []string{
		// By two lets.
		`let x = 1; ^let x = 2;`,
		`let x = 1; exact; ^let x = 1;`,
		`let x = 1; let y = 2; ^let x = y;`,
		`let x = 1; when 1 < 2 { ^let x = 2; }`,
		`let x = 1; when 1 < 2 { } else { ^let x = 2; }`,
		`let x = 1; repeat i 1 to 2 { ^let x = 2; }`,
		`let x = 1; repeat i 2 to 1 { ^let x = 2; }`,
		`when 1 < 2 { let x = 1; ^let x = 2; }`,
		`when 1 < 2 { } else { let x = 1; when 1 < 2 { ^let x = 2; } }`,
		`let x = 1; when 1 < 2 { when 1 < 2 { repeat i 1 to 2 { ^let x = 2; } } }`,
		// By a let and a repeat.
		`let x = 1; ^repeat x 1 to 2 { }`,
		`let x = 1; when 1 < 2 { ^repeat x 1 to 2 { } }`,
		`let x = 1; when 1 < 2 { } else { ^repeat x 1 to 2 { } }`,
		`let x = 1; repeat i 1 to 2 { ^repeat x 1 to 2 { } }`,
		`when 1 < 2 { let x = 1; ^repeat x 1 to 2 { } }`,
		// By a repeat and a let.
		`repeat x 1 to 2 { ^let x = 1; }`,
		`repeat x 2 to 1 { ^let x = 1; }`,
		`repeat x 1 to 2 { when 1 < 2 { ^let x = 1; } }`,
		`repeat x 1 to 2 { when 1 < 2 { } else { ^let x = 1; } }`,
		`repeat x 1 to 2 { repeat i 1 to 2 { ^let x = 1; } }`,
		`repeat x 1 to 2 { exact; ^let x = x; }`,
		// By two repeats.
		`repeat x 1 to 2 { ^repeat x 1 to 2 { } }`,
		`repeat x 2 to 1 { ^repeat x 2 to 1 { } }`,
		`repeat x 1 to 2 { when 1 < 2 { ^repeat x 1 to 2 { } } }`,
		`repeat x 1 to 2 { repeat i 1 to 2 { ^repeat x 1 to 2 { } } }`,
		// Anew behind a block, and then twice.
		`when 1 < 2 { let x = 1; } let x = 2; ^let x = 3;`,
		`repeat x 1 to 2 { } let x = 2; ^repeat x 1 to 2 { }`,
		`when 1 < 2 { let x = 1; } let x = 2; when 1 < 2 { ^let x = 3; }`,
	} {
		checkRefused(t, text, api.ErrScopeTwice)
	}
}

// Beside one another a name may be bound as often as wanted.
func TestP20_1BoundBesideOneAnother(t *testing.T) {
	for _, text := range []string{
		`let x = 1; let X = 2; let _x = 3; let x_ = 4; let xx = 5;`,
		`when 1 < 2 { let x = 1; } else { let x = 2; }`,
		`when 1 < 2 { let x = 1; } when 1 < 2 { let x = 2; }`,
		`when 1 < 2 { let x = 1; } let x = 2;`,
		`when 1 < 2 { } else { let x = 1; } let x = 2;`,
		`when 1 < 2 { let x = 1; } repeat x 1 to 2 { }`,
		`repeat x 1 to 2 { } repeat x 1 to 2 { }`,
		`repeat x 1 to 2 { } let x = 1;`,
		`repeat i 1 to 2 { let x = 1; } repeat i 1 to 2 { let x = 1; }`,
		`repeat i 1 to 2 { let x = 1; } let x = 2;`,
		`repeat i 1 to 2 { repeat k 1 to 2 { } repeat k 1 to 2 { } let k = 1; }`,
		`when 1 < 2 { repeat x 1 to 2 { } } else { repeat x 1 to 2 { } } repeat x 1 to 2 { }`,
		`let a = 1; volume a size a; absent a; rename a to b;`,
	} {
		checkTaken(t, text)
	}
	checkUnfold(t, `when 2 < 1 { let x = 1; absent "v${x}"; } else { let x = 2; absent "v${x}"; } let x = 3; absent "v${x}";`, "absent'v2'@60 absent'v3'@89")
	checkUnfold(t, `repeat x 1 to 2 { absent "a${x}"; } repeat x 3 to 4 { absent "b${x}"; } let x = 5; absent "c${x}";`,
		"absent'a1'@18 absent'a2'@18 absent'b3'@54 absent'b4'@54 absent'c5'@83")
}

// What a let and a repeat bind is looked at behind the number, from and to, and ahead of the block.
func TestP20_1WhichErrorStandsFirst(t *testing.T) {
	for _, c := range []struct {
		text string
		e    api.Errno
	}{
		{`let x = 1; let x = ^y;`, api.ErrScopeUnknown},
		{`let x = 1; let x = 1 + min(2, ^y);`, api.ErrScopeUnknown},
		{`let x = 1; let x = size(^"1");`, api.ErrScopeName},
		{`let x = 1; ^let x = x;`, api.ErrScopeTwice},
		{`let x = 1; ^let x = 1 / 0;`, api.ErrScopeTwice},
		{`let x = 1; ^let x = size(b);`, api.ErrScopeTwice},
		{`let x = 1; repeat x ^y to 2 { }`, api.ErrScopeUnknown},
		{`let x = 1; repeat x 1 to ^y { }`, api.ErrScopeUnknown},
		{`let x = 1; repeat x size(^A) to y { }`, api.ErrScopeName},
		{`let x = 1; repeat x ^y to size(A) { }`, api.ErrScopeUnknown},
		{`let x = 1; repeat x 1 to size(^"1") { }`, api.ErrScopeName},
		{`let x = 1; ^repeat x x to x { }`, api.ErrScopeTwice},
		{`let x = 1; ^repeat x 1 to 2 { absent "1"; }`, api.ErrScopeTwice},
		{`let x = 1; ^repeat x 1 to 2 { let y = z; let x = 1; }`, api.ErrScopeTwice},
		{`repeat x ^y to z { absent "1"; let x = 1; }`, api.ErrScopeUnknown},
		{`repeat x 1 to 2 { absent ^"1"; let x = 1; }`, api.ErrScopeName},
		{`repeat x 1 to 2 { ^let x = 1; absent "1"; }`, api.ErrScopeTwice},

		// Clause by clause, the first error decides, whatever its number.
		{`absent ^"1"; let x = y; let z = 1; let z = 2;`, api.ErrScopeName},
		{`let x = ^y; absent "1"; let z = 1; let z = 2;`, api.ErrScopeUnknown},
		{`let z = 1; ^let z = 2; absent "1"; let x = y;`, api.ErrScopeTwice},

		// Kid by kid: of a volume the source is the last one, wherever it stands in the text.
		{`volume ^"1" from "2" size y;`, api.ErrScopeName},
		{`volume a from "2" size ^y;`, api.ErrScopeUnknown},
		{`volume a from ^"2" size 1;`, api.ErrScopeName},
		{`keep ^y of "1";`, api.ErrScopeUnknown},
		{`keep 1 of ^"1";`, api.ErrScopeName},
		{`rename ^"1" to "2";`, api.ErrScopeName},
		{`rename a to ^"2";`, api.ErrScopeName},
		{`when ^y < 1 { absent "1"; } else { absent "2"; }`, api.ErrScopeUnknown},
		{`when 1 < ^y { absent "1"; } else { absent "2"; }`, api.ErrScopeUnknown},
		{`when 1 < 2 { absent ^"1"; } else { absent "2"; }`, api.ErrScopeName},
		{`when 1 < 2 { absent a; } else { absent ^"2"; }`, api.ErrScopeName},
		{`let x = ^y + size("1");`, api.ErrScopeUnknown},
		{`let x = size(^"1") + y;`, api.ErrScopeName},
		{`let x = max(1, ^y, z);`, api.ErrScopeUnknown},
		{`when ^y < 1 or z < 1 { }`, api.ErrScopeUnknown},
		{`when 1 < 2 or exists(^"1") and y < 1 { }`, api.ErrScopeName},
		{`absent "a${^y}${z}";`, api.ErrScopeUnknown},
		{`absent "1${^y}";`, api.ErrScopeUnknown},
		{`absent "a${size(^A)}${z}";`, api.ErrScopeName},
	} {
		checkRefused(t, c.text, c.e)
	}
}

// All of a plan is looked at, also what can never be unfolded; and nothing is reckoned.
func TestP20_1AllIsLookedAtNothingIsReckoned(t *testing.T) {
	checkRefused(t, `when 2 < 1 { absent ^"1"; }`, api.ErrScopeName)
	checkRefused(t, `when 1 < 2 { } else { volume v size ^y; }`, api.ErrScopeUnknown)
	checkRefused(t, `repeat i 2 to 1 { volume v size ^y; }`, api.ErrScopeUnknown)
	checkRefused(t, `when 1 < 2 or ^y < 1 { }`, api.ErrScopeUnknown)
	checkRefused(t, `when 2 < 1 and exists(^"1") { }`, api.ErrScopeName)
	checkRefused(t, `let x = 1 / 0; absent ^"1";`, api.ErrScopeName)
	checkRefused(t, `repeat i 1 to 1M { } absent ^"1";`, api.ErrScopeName)
	checkRefused(t, strings.Repeat("exact;", mostClauses+1)+` absent ^"1";`, api.ErrScopeName)
	for _, text := range []string{
		`let x = 1 / 0;`, `let x = 1 % 0;`, `let x = 3 - 4;`, `let x = 1048576M + 1;`, `let x = 1048576M * 1048576M;`, `let x = size(b);`,
		`absent "${1}";`, `absent "A${1}";`, `absent "a${1 / 0}";`, `when exists("~${1}") { }`, `let x = size("${1}");`,
		`repeat i 1 to 1M { exact; }`, strings.Repeat("exact;", mostClauses+1),
	} {
		checkTaken(t, text)
	}
}

// holes are plans with a ? in each place where a number may stand.
var holes = []string{
	`let q = ?;`, `volume v size ?;`, `volume v from b size ? thick;`, `keep ? of b;`, `repeat q ? to 1 { }`, `repeat q 1 to ? { }`,
	`when ? < 1 { }`, `when 1 < ? { }`, `when ? = 1 { }`, `when 1 = ? { }`, `when not ? < 1 { }`, `when not not 1 = ? { }`,
	`when ? < 1 and 1 < 2 { }`, `when 1 < 2 and ? < 1 { }`, `when ? < 1 or 1 < 2 { }`, `when 1 < 2 or ? < 1 { }`, `when 2 < 1 and (1 < 2 or 1 < ?) { }`,
	`let q = ? + 1;`, `let q = 1 + ?;`, `let q = ? - 1;`, `let q = 1 - ?;`, `let q = ? * 1;`, `let q = 1 * ?;`,
	`let q = ? / 1;`, `let q = 1 / ?;`, `let q = ? % 1;`, `let q = 1 % ?;`, `let q = ((?));`, `let q = 1 + 2 * (3 - ?);`,
	`let q = min(?);`, `let q = max(?);`, `let q = min(?, 1);`, `let q = min(1, ?);`, `let q = max(1, 2, ?, 3);`,
	`volume "v${?}" size 1;`, `volume v from "v${?}" size 1;`, `snapshot of "v${?}";`, `keep 1 of "v${?}";`, `absent "v${?}";`,
	`rename "v${?}" to b;`, `rename b to "v${?}";`, `let q = size("v${?}");`, `when exists("v${?}") { }`, `when not exists("v${?}") { }`,
	`absent "${?}";`, `absent "${?}v";`, `absent "v${1}${?}";`, `absent "v${1}-${2}w${?}";`, `absent "v${1 + ?}";`, `absent "v${min(1, ?)}";`,
	`absent "v${size(b) * (1 + ?)}";`,
	`when 1 < 2 { let q = ?; }`, `when 1 < 2 { } else { let q = ?; }`, `repeat q 1 to 2 { let r = ?; }`, `repeat q 1 to 2 { repeat r 1 to ? { } }`,
	`when 1 < 2 { when 1 < 2 { } else { when 1 < 2 { absent "v${?}"; } } }`,
}

// In each place where a number may stand a word has to be bound.
func TestP20_1WordsThatAreNotBound(t *testing.T) {
	for _, hole := range holes {
		checkRefused(t, strings.Replace(hole, "?", "^y", 1), api.ErrScopeUnknown)
		checkRefused(t, strings.Replace(hole, "?", "(1 + ^y)", 1), api.ErrScopeUnknown)
		plain := strings.Replace(hole, "?", "y", 1)
		checkTaken(t, `let y = 1; `+plain)
		checkTaken(t, `repeat y 1 to 1 { `+plain+` }`)
		checkTaken(t, `when 1 < 2 { let z = 1; let y = z; `+plain+` }`)
		checkTaken(t, strings.Replace(hole, "?", "1", 1))
		checkTaken(t, strings.Replace(hole, "?", "free()", 1))
		checkTaken(t, strings.Replace(hole, "?", "size(y)", 1))
		checkRefused(t, `when 1 < 2 { let y = 1; } `+strings.Replace(hole, "?", "^y", 1), api.ErrScopeUnknown)
		checkRefused(t, `repeat y 1 to 1 { } `+strings.Replace(hole, "?", "^y", 1), api.ErrScopeUnknown)
		checkRefused(t, strings.Replace(hole, "?", "^y", 1)+` let y = 1;`, api.ErrScopeUnknown)
		checkRefused(t, `let Y = 1; let yy = 1; let _y = 1; `+strings.Replace(hole, "?", "^y", 1), api.ErrScopeUnknown)
	}
}

// A name is no word: what is bound has nothing to do with it.
func TestP20_1NamesAreNoWords(t *testing.T) {
	checkUnfold(t, `let a = 7; volume a size a;`, "volume'a'#7@11")
	checkUnfold(t, `let a = 7; volume b size size(a);`, "volume'b'#10@11")
	checkUnfold(t, `let b = 7; when exists(b) { exact; }`, "")
	checkUnfold(t, `let b = 7; absent "b${b}";`, "absent'b7'@11")
}

// The errors of Valid, with the place of what is asked.
func TestP20_1TreesThatMayNotBe(t *testing.T) {
	exact := api.Node{Kind: api.NodeExact, At: 9}
	deep := exact
	for range mostDepth / 2 {
		deep = api.Node{Kind: api.NodeWhen, At: 3, Kids: []api.Node{treeOf(t, "when 1 < 2 { }").Kids[0].Kids[0], {Kind: api.NodeBlock, Kids: []api.Node{deep}}}}
	}
	unknown := api.Node{Kind: api.NodeLet, Text: "x", At: 1, Kids: []api.Node{{Kind: api.NodeWord, Text: "y", At: 2}}}
	for _, c := range []struct {
		n api.Node
		e api.Errno
	}{
		{api.Node{}, api.ErrSyntaxTree},
		{exact, api.ErrSyntaxTree},
		{api.Node{Kind: api.NodeBlock, At: 4}, api.ErrSyntaxTree},
		{api.Node{Kind: api.NodeBlock, At: 4, Kids: []api.Node{unknown}}, api.ErrSyntaxTree},
		{api.Node{Kind: api.NodePlan, At: 5, Text: "a"}, api.ErrSyntaxTree},
		{api.Node{Kind: api.NodePlan, At: -5, Number: 1}, api.ErrSyntaxTree},
		{api.Node{Kind: api.NodePlan, At: 6, Kids: []api.Node{{Kind: api.NodeLet, At: 7, Text: "x"}}}, api.ErrSyntaxTree},
		{api.Node{Kind: api.NodePlan, At: 6, Kids: []api.Node{{Kind: api.NodeRepeat, At: 7, Text: "x"}}}, api.ErrSyntaxTree},
		{api.Node{Kind: api.NodePlan, At: 6, Kids: []api.Node{unknown, {Kind: api.NodePlan, At: 7}}}, api.ErrSyntaxTree},
		{api.Node{Kind: api.NodePlan, At: 8, Kids: []api.Node{deep}}, api.ErrSyntaxDeep},
		{api.Node{Kind: api.NodePlan, At: 8, Kids: []api.Node{unknown, deep}}, api.ErrSyntaxDeep},
		{api.Node{Kind: api.NodePlan, At: 8, Kids: []api.Node{deep, {Kind: 99}}}, api.ErrSyntaxTree},
	} {
		if at, e := scope.Check(c.n); at != c.n.At || e != c.e {
			t.Errorf("Check(%v) = %d, %d; want %d, %d", c.n, at, e, c.n.At, c.e)
		}
		if clauses, at, e := scope.Unfold(c.n, sample()); len(clauses) != 0 || at != c.n.At || e != c.e {
			t.Errorf("Unfold(%v) = %s; want nothing, %d, %d", c.n, told(clauses, at, e), c.n.At, c.e)
		}
	}
	for kind := -1; kind < 40; kind++ {
		n := api.Node{Kind: kind, At: 12}
		at, e := scope.Check(n)
		if kind == api.NodePlan && (at != 0 || e != api.OK) || kind != api.NodePlan && (at != 12 || e != api.ErrSyntaxTree) {
			t.Errorf("Check of a node of the kind %d = %d, %d", kind, at, e)
		}
	}
}

// Trees just as deep as may be are looked at down to the last node.
func TestP20_1DeepTrees(t *testing.T) {
	nested := func(times int, inner string) string {
		out := ""
		for i := range times {
			out += "repeat i" + strings.Repeat("i", i) + " 1 to 1{"
		}
		return out + inner + strings.Repeat("}", times)
	}
	sum := strings.Repeat("1+", 60)
	checkRefused(t, "let x = "+"^y+"+sum+"1;", api.ErrScopeUnknown)
	checkRefused(t, nested(30, "let x = ^y+1;"), api.ErrScopeUnknown)
	checkRefused(t, nested(30, "^let iii = 1;"), api.ErrScopeTwice)
	checkRefused(t, nested(30, "absent ^A;"), api.ErrScopeName)
	checkUnfold(t, nested(30, "volume v size i+iiii;"), "volume'v'#2@915")
	checkRefused(t, "when "+strings.Repeat("not ", 58)+"1 < ^y { }", api.ErrScopeUnknown)
}
