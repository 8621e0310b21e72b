package scope_test

import (
	"fmt"
	"strings"
	"testing"

	"cistern/api"
	"cistern/scope"
)

// nameHoles are plans with a ? in each place where a name may stand.
var nameHoles = []string{
	`volume ? size 1;`, `volume v from ? size 1;`, `snapshot of ?;`, `keep 1 of ?;`, `absent ?;`, `rename ? to v;`, `rename v to ?;`,
	`let x = size(?);`, `let x = 1 + min(2, size(?));`, `when exists(?) { }`, `when 1 < 2 or not exists(?) { }`,
	`when 1 < 2 { absent ?; }`, `when 1 < 2 { } else { absent ?; }`, `repeat i 1 to 2 { absent ?; }`,
}

// mayBe are plan's names, and mayNotBe are none.
func mayBe() []string {
	return []string{"a", "z", "m", "ab", "a0", "a9", "a.b-c_d@e~f", "a.", "a-", "a_", "a@", "a~", "zzz", "size", "let", strings.Repeat("a", 31), "q" + strings.Repeat("~", 30)}
}

func mayNotBe() []string {
	return []string{"", " ", "~", "~a", "~1", "0", "9", "1a", ".", ".a", "-", "-a", "_", "_a", "@", "@a", "A", "Z", "Aa", "aA", "aZ", "a b", " a", "a ", "a/b", "a,b", "a:", "a!", "a'", "a`", "a|", "a#b", "a;", "a(b)", "a+b", "a*", "a?", "a[b]",
		strings.Repeat("a", 32), strings.Repeat("a", 64), strings.Repeat("a", 5000), "~" + strings.Repeat("a", 30), "1" + strings.Repeat("a", 30)}
}

// Names without an expression, in quotes and in each place.
func TestP20_1Names(t *testing.T) {
	for _, hole := range nameHoles {
		for _, name := range mayBe() {
			checkTaken(t, strings.Replace(hole, "?", `"`+name+`"`, 1))
		}
		for _, name := range mayNotBe() {
			checkRefused(t, strings.Replace(hole, "?", `^"`+name+`"`, 1), api.ErrScopeName)
		}
		// Words are names too, and not each of them may be.
		for _, name := range []string{"a", "z", "a0", "a_", "sizes", strings.Repeat("a", 31)} {
			checkTaken(t, strings.Replace(hole, "?", name, 1))
		}
		for _, name := range []string{"A", "_", "_a", "aB", "Size", strings.Repeat("a", 32)} {
			checkRefused(t, strings.Replace(hole, "?", "^"+name, 1), api.ErrScopeName)
		}
	}
	// The names that stand in a name's numbers are words.
	checkTaken(t, `absent "v${size(a)}";`)
	checkRefused(t, `absent "v${size(^A)}";`, api.ErrScopeName)
	checkRefused(t, `absent "v${1 + min(2, size(^_a))}";`, api.ErrScopeName)
	checkRefused(t, `let x = size("v${size(^A)}");`, api.ErrScopeName)
}

// absentOf gives a plan of one clause, with a name of these parts at place 7.
func absentOf(parts ...api.Node) api.Node {
	name := api.Node{Kind: api.NodeName, At: 7, Kids: parts}
	return api.Node{Kind: api.NodePlan, Kids: []api.Node{{Kind: api.NodeAbsent, At: 3, Kids: []api.Node{name}}}}
}

func textNode(text string) api.Node { return api.Node{Kind: api.NodeText, Text: text} }

func numberNode(number int) api.Node { return api.Node{Kind: api.NodeNumber, Number: number} }

// Each byte that can stand in a name, as its first one and behind it; without an expression, and with one.
func TestP20_1EachByteOfAName(t *testing.T) {
	const first = "abcdefghijklmnopqrstuvwxyz"
	const behind = first + "0123456789.-_@~"
	for b := ' '; b <= '~'; b++ {
		if strings.ContainsRune(`"${}`, b) {
			continue
		}
		one := string(b)
		for _, c := range []struct {
			text   string
			isName bool
		}{
			{one, strings.Contains(first, one)}, {one + "a", strings.Contains(first, one)},
			{"a" + one, strings.Contains(behind, one)}, {"a" + one + "a", strings.Contains(behind, one)}, {strings.Repeat("a", 30) + one, strings.Contains(behind, one)},
		} {
			at, e := scope.Check(absentOf(textNode(c.text)))
			if c.isName && (at != 0 || e != api.OK) || !c.isName && (at != 7 || e != api.ErrScopeName) {
				t.Errorf("Check of the name %q = %d, %d", c.text, at, e)
			}
			// With a number behind it, it is asked of the whole when it is made.
			n := absentOf(textNode(c.text), numberNode(5))
			if at, e := scope.Check(n); at != 0 || e != api.OK {
				t.Errorf("Check of the name %q and a number = %d, %d", c.text, at, e)
			}
			want := fmt.Sprintf("absent'%s5'@3, 0, 0", c.text)
			if !c.isName || len(c.text) > 30 {
				want = ", 7, 200"
			}
			if got := told(scope.Unfold(n, sample())); got != want {
				t.Errorf("Unfold of the name %q and a number = %s; want %s", c.text, got, want)
			}
		}
	}
}

// Names of no part, and how long they may be.
func TestP20_1NamesOfNoPartAndLongOnes(t *testing.T) {
	if at, e := scope.Check(absentOf()); at != 7 || e != api.ErrScopeName {
		t.Errorf("Check of a name of no part = %d, %d", at, e)
	}
	for long := range 70 {
		at, e := scope.Check(absentOf(textNode("a" + strings.Repeat("b", long))))
		if ok := long+1 <= 31; ok && (at != 0 || e != api.OK) || !ok && (at != 7 || e != api.ErrScopeName) {
			t.Errorf("Check of a name of %d bytes = %d, %d", long+1, at, e)
		}
	}
}

// Names made of their parts.
func TestP20_2NamesMade(t *testing.T) {
	for _, c := range []struct{ text, want string }{
		{`absent "a${1}";`, "absent'a1'@0"},
		{`absent "a${0}";`, "absent'a0'@0"},
		{`absent "a${007}";`, "absent'a7'@0"},
		{`absent "a${10 * 10}";`, "absent'a100'@0"},
		{`absent "a${1K}";`, "absent'a1024'@0"},
		{`absent "a${1048576M}";`, "absent'a1099511627776'@0"},
		{`absent "a${1}${2}";`, "absent'a12'@0"},
		{`absent "a${1}b${2}c";`, "absent'a1b2c'@0"},
		{`absent "a${1}${0}0${00}";`, "absent'a1000'@0"},
		{`absent "a.-_@~${1}";`, "absent'a.-_@~1'@0"},
		{`absent "a${size(a)}-${free()}";`, "absent'a10-90'@0"},
		{`absent "a${min(3, 2)}${max(3, 2)}";`, "absent'a23'@0"},
		{`let x = 7; absent "x${x}${x + 1}";`, "absent'x78'@11"},
		{`absent "` + strings.Repeat("a", 30) + `${7}";`, "absent'" + strings.Repeat("a", 30) + "7'@0"},
		{`absent "` + strings.Repeat("a", 18) + `${1048576M}";`, "absent'" + strings.Repeat("a", 18) + "1099511627776'@0"},
		{`absent "a${1048576M}-${1048576M}${999}";`, "absent'a1099511627776-1099511627776999'@0"},
	} {
		checkUnfold(t, c.text, c.want)
	}
	for _, text := range []string{
		`absent ^"${1}";`, `absent ^"${1}a";`, `absent ^"~${1}";`, `absent ^"A${1}";`, `absent ^".${1}";`, `absent ^"a ${1}";`, `absent ^"a${1}B";`, `absent ^"a${1}/${2}";`,
		`absent ^"` + strings.Repeat("a", 31) + `${7}";`, `absent ^"` + strings.Repeat("a", 30) + `${10}";`, `absent ^"` + strings.Repeat("a", 19) + `${1048576M}";`,
		`absent ^"a` + strings.Repeat("${1}", 31) + `";`, `absent ^"a${1048576M}-${1048576M}${9999}";`,
		`volume ^"${1}" size 1;`, `volume v from ^"${1}" size 1;`, `snapshot of ^"${1}";`, `keep 1 of ^"${1}";`, `rename ^"${1}" to a;`, `rename a to ^"${1}";`,
		`let x = size(^"${1}");`, `when exists(^"${1}") { }`, `when not exists(^"${1}") { exact; }`,
	} {
		checkFault(t, text, api.ErrScopeName)
	}
	checkUnfold(t, `absent "a`+strings.Repeat("${1}", 30)+`";`, "absent'a"+strings.Repeat("1", 30)+"'@0")
}

// A name that may be for some numbers, and not for one that it holds.
func TestP20_2NamesThatMayNotBeForANumber(t *testing.T) {
	long := strings.Repeat("a", 30)
	checkUnfold(t, `repeat i 8 to 9 { absent "`+long+`${i}"; }`, "absent'"+long+"8'@18 absent'"+long+"9'@18")
	checkFault(t, `repeat i 8 to 10 { absent ^"`+long+`${i}"; }`, api.ErrScopeName)
	checkFault(t, `repeat i 8 to 1M { absent ^"`+long+`${i}"; }`, api.ErrScopeName)
	checkFault(t, `let x = 10; absent ^"`+long+`${x}";`, api.ErrScopeName)
	checkUnfold(t, `let x = 9; absent "`+long+`${x}";`, "absent'"+long+"9'@11")
}

// The numbers of a name come ahead of what is made of them, in their order.
func TestP20_2ErrorsWithinNames(t *testing.T) {
	checkFault(t, `absent "A${^1 / 0}";`, api.ErrScopeZero)
	checkFault(t, `absent "a${^3 - 4}${1 / 0}";`, api.ErrScopeNumber)
	checkFault(t, `absent "a${1}${^1 / 0}${3 - 4}";`, api.ErrScopeZero)
	checkFault(t, `absent "${size(^b)}";`, api.ErrScopeUnknown)
	checkFault(t, `absent "a${^1048576M + 1}";`, api.ErrScopeNumber)
	checkFault(t, `let x = size("b${^1 % 0}");`, api.ErrScopeZero)
	checkFault(t, `when exists("b${^1 - 2}") { }`, api.ErrScopeNumber)
}

// What a made name finds in the view.
func TestP20_2NamesMadeAndTheView(t *testing.T) {
	v := api.View{Free: 3, Volumes: []api.Volume{{Name: "v1", Size: 11}, {Name: "v10", Size: 12}, {Name: "v01", Size: 13}, {Name: "v", Size: 14}, {Name: "1", Size: 15}, {Name: "~1", Size: 16}, {Name: "", Size: 17}}}
	checkOver(t, v, `volume a size size("v${1}");`, "volume'a'#11@0")
	checkOver(t, v, `volume a size size("v${10}");`, "volume'a'#12@0")
	checkOver(t, v, `volume a size size("v0${1}");`, "volume'a'#13@0")
	checkOver(t, v, `volume a size size(v);`, "volume'a'#14@0")
	checkOver(t, v, `repeat i 0 to 3 { when exists("v${i}") { absent "v${i}"; } }`, "absent'v1'@41")
	checkFaultOver(t, v, `let x = size(^"v${2}");`, api.ErrScopeUnknown)
	checkFaultOver(t, v, `let x = size(^"v${01}0${0}");`, api.ErrScopeUnknown)
	checkFaultOver(t, v, `let x = size(^"${1}");`, api.ErrScopeName)
	checkFaultOver(t, v, `let x = size(^"~${1}");`, api.ErrScopeName)
	checkFaultOver(t, v, `when exists(^"~${1}") { }`, api.ErrScopeName)
}
