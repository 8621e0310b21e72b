package scope_test

import (
	"fmt"
	"strings"
	"testing"

	"cistern/api"
	"cistern/scope"
	"cistern/syntax"
)

const (
	mostClauses = 256
	mostRounds  = 16384
	mostNumber  = 1099511627776
	mostDepth   = 64
)

// sample is the view of the chapter's examples.
func sample() api.View {
	return api.View{Capacity: 100, Free: 90, Next: 2, Volumes: []api.Volume{{Name: "a", ID: 1, Size: 10}}}
}

// marked gives a text without the ^ in it, and the place where that stood.
func marked(t *testing.T, text string) (string, int) {
	t.Helper()
	ahead, behind, ok := strings.Cut(text, "^")
	if !ok {
		t.Fatalf("%q marks nothing", text)
	}
	return ahead + behind, len(ahead)
}

// treeOf gives the tree of a plan's text.
func treeOf(t *testing.T, text string) api.Node {
	t.Helper()
	n, at, e := syntax.Parse([]byte(text))
	if e != api.OK {
		t.Fatalf("Parse(%s) = %d, %d", short(text), at, e)
	}
	return n
}

// short cuts what a test tells.
func short(text string) string {
	if len(text) > 600 {
		return text[:300] + " ... " + text[len(text)-200:] + fmt.Sprintf(" (%d in all)", len(text))
	}
	return text
}

// clauseWords are the words for kinds that the tests tell clauses by.
var clauseWords = []string{"none", "volume", "snap", "keep", "absent", "rename", "exact"}

// listed tells clauses: kind, 'Name', #Number, <'Other', ! if thick, @ and the place, each field that is not zero.
func listed(clauses []api.Clause) string {
	var all []string
	for _, c := range clauses {
		one := fmt.Sprint("kind", c.Kind)
		if c.Kind >= 0 && c.Kind < len(clauseWords) {
			one = clauseWords[c.Kind]
		}
		if c.Name != "" {
			one += "'" + c.Name + "'"
		}
		if c.Number != 0 {
			one += fmt.Sprint("#", c.Number)
		}
		if c.Other != "" {
			one += "<'" + c.Other + "'"
		}
		if c.Thick {
			one += "!"
		}
		all = append(all, one+fmt.Sprint("@", c.At))
	}
	return strings.Join(all, " ")
}

// told tells what Unfold answers.
func told(clauses []api.Clause, at int, e api.Errno) string {
	return fmt.Sprintf("%s, %d, %d", listed(clauses), at, e)
}

// checkOver holds what a plan is unfolded to over a view, and that Check takes it.
func checkOver(t *testing.T, v api.View, text string, want string) {
	t.Helper()
	n := treeOf(t, text)
	if at, e := scope.Check(n); at != 0 || e != api.OK {
		t.Errorf("Check(%s) = %d, %d; want 0, 0", short(text), at, e)
	}
	if got, want := told(scope.Unfold(n, v)), want+", 0, 0"; got != want {
		t.Errorf("Unfold(%s) = %s; want %s", short(text), short(got), short(want))
	}
}

func checkUnfold(t *testing.T, text string, want string) {
	t.Helper()
	checkOver(t, sample(), text, want)
}

// checkRefused holds that Check and Unfold refuse a plan, at the place that a ^ in its text marks.
func checkRefused(t *testing.T, text string, want api.Errno) {
	t.Helper()
	text, place := marked(t, text)
	n := treeOf(t, text)
	if at, e := scope.Check(n); at != place || e != want {
		t.Errorf("Check(%s) = %d, %d; want %d, %d", short(text), at, e, place, want)
	}
	if clauses, at, e := scope.Unfold(n, sample()); len(clauses) != 0 || at != place || e != want {
		t.Errorf("Unfold(%s) = %s; want nothing, %d, %d", short(text), short(told(clauses, at, e)), place, want)
	}
}

// checkFaultOver holds that Check takes a plan and Unfold refuses it over a view, at the place that a ^ in its text marks.
func checkFaultOver(t *testing.T, v api.View, text string, want api.Errno) {
	t.Helper()
	text, place := marked(t, text)
	n := treeOf(t, text)
	if at, e := scope.Check(n); at != 0 || e != api.OK {
		t.Errorf("Check(%s) = %d, %d; want 0, 0", short(text), at, e)
	}
	if clauses, at, e := scope.Unfold(n, v); len(clauses) != 0 || at != place || e != want {
		t.Errorf("Unfold(%s) = %s; want nothing, %d, %d", short(text), short(told(clauses, at, e)), place, want)
	}
}

func checkFault(t *testing.T, text string, want api.Errno) {
	t.Helper()
	checkFaultOver(t, sample(), text, want)
}

// checkTaken holds that Check takes a plan, whatever comes of it.
func checkTaken(t *testing.T, text string) {
	t.Helper()
	if at, e := scope.Check(treeOf(t, text)); at != 0 || e != api.OK {
		t.Errorf("Check(%s) = %d, %d; want 0, 0", short(text), at, e)
	}
}

// The chapter's examples, in its order.
func TestP20Examples(t *testing.T) {
	checkUnfold(t, `let x = 2; volume v size x * size(a);`, "volume'v'#20@11")
	checkUnfold(t, `repeat i 1 to 2 { volume "v${i}" size i; }`, "volume'v1'#1@18 volume'v2'#2@18")
	checkUnfold(t, `repeat i 2 to 1 { absent "v${i}"; }`, "")
	checkUnfold(t, `when exists(a) and not 90 < free() { snapshot of a; } else { exact; }`, "snap<'a'@37")
	checkRefused(t, `let x = 1; ^let x = 2;`, api.ErrScopeTwice)
	checkRefused(t, `let x = ^x;`, api.ErrScopeUnknown)
	checkRefused(t, `repeat i 1 to ^i { }`, api.ErrScopeUnknown)
	checkRefused(t, `when 1 < 2 { let y = 1; } volume v size ^y;`, api.ErrScopeUnknown)
	checkRefused(t, `absent ^"1a";`, api.ErrScopeName)
	checkRefused(t, `absent ^"a b";`, api.ErrScopeName)
	checkRefused(t, `absent ^"~1";`, api.ErrScopeName)
	checkFault(t, `repeat i 0 to 1 { absent ^"${i}"; }`, api.ErrScopeName)
	checkFault(t, `let x = ^3 - 4;`, api.ErrScopeNumber)
	checkFault(t, `let x = ^1 / (2 - 2);`, api.ErrScopeZero)
	checkFault(t, `let x = ^1048576M * 2;`, api.ErrScopeNumber)
	checkFault(t, `let x = size(^b);`, api.ErrScopeUnknown)
	checkUnfold(t, `when 1 < 2 or 1 / 0 = 1 { exact; }`, "exact@26")
	checkFault(t, `repeat i 1 to 300 { ^absent "v${i}"; }`, api.ErrScopeMany)
	checkFault(t, `^repeat i 1 to 1M { }`, api.ErrScopeMany)

	sevenOfFour := treeOf(t, "let x = 7 % 4;").Kids[0].Kids[0]
	checkNumber(t, sevenOfFour, sample(), 3)
	checkNoNumber(t, api.Node{Kind: api.NodeWord, Text: "x", At: 3}, sample(), 3, api.ErrScopeUnknown)
	checkNoNumber(t, api.Node{Kind: api.NodeLess, At: 5}, sample(), 5, api.ErrSyntaxTree)
	less := treeOf(t, "when 1 < 2 { }").Kids[0].Kids[0]
	checkNoNumber(t, less, sample(), 5, api.ErrSyntaxTree)
}

// The places of the examples, as the chapter writes them.
func TestP20PlacesOfTheExamples(t *testing.T) {
	for _, c := range []struct {
		text string
		at   int
		e    api.Errno
	}{
		{`let x = 1; let x = 2;`, 11, 201}, {`let x = x;`, 8, 202}, {`repeat i 1 to i { }`, 14, 202},
		{`when 1 < 2 { let y = 1; } volume v size y;`, 40, 202},
		{`absent "1a";`, 7, 200}, {`absent "a b";`, 7, 200}, {`absent "~1";`, 7, 200}, {`repeat i 0 to 1 { absent "${i}"; }`, 25, 200},
		{`let x = 3 - 4;`, 8, 203}, {`let x = 1 / (2 - 2);`, 8, 204}, {`let x = 1048576M * 2;`, 8, 203}, {`let x = size(b);`, 13, 202},
		{`repeat i 1 to 300 { absent "v${i}"; }`, 20, 205}, {`repeat i 1 to 1M { }`, 0, 205},
	} {
		if clauses, at, e := scope.Unfold(treeOf(t, c.text), sample()); len(clauses) != 0 || at != c.at || e != c.e {
			t.Errorf("Unfold(%s) = %s; want nothing, %d, %d", c.text, told(clauses, at, e), c.at, c.e)
		}
	}
}
