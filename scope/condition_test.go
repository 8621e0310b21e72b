package scope_test

import (
	"strings"
	"testing"

	"cistern/api"
	"cistern/scope"
)

// checkHolds holds whether a condition holds over a view: in a when, and turned round by a not.
func checkHolds(t *testing.T, v api.View, text string, want bool) {
	t.Helper()
	for _, isTurned := range []bool{false, true} {
		condition := text
		if isTurned {
			condition = "not (" + text + ")"
		}
		clauses, at, e := scope.Unfold(treeOf(t, "when "+condition+" { exact; } else { absent a; }"), v)
		if at != 0 || e != api.OK || len(clauses) != 1 || (clauses[0].Kind == api.ClauseExact) != (want != isTurned) {
			t.Errorf("Unfold of a when %s = %s; want that it is %v", condition, told(clauses, at, e), want != isTurned)
		}
		clauses, at, e = scope.Unfold(treeOf(t, "when "+condition+" { exact; }"), v)
		if at != 0 || e != api.OK || (len(clauses) == 1) != (want != isTurned) {
			t.Errorf("Unfold of a when %s without an else = %s", condition, told(clauses, at, e))
		}
	}
}

func TestP20_2EachKindOfCondition(t *testing.T) {
	v := sample()
	for _, c := range []struct {
		text string
		want bool
	}{
		{"1 < 2", true}, {"2 < 1", false}, {"1 < 1", false}, {"0 < 1048576M", true}, {"1048576M < 1048576M", false}, {"1048576M < 0", false}, {"0 < 0", false},
		{"1 = 2", false}, {"2 = 1", false}, {"1 = 1", true}, {"0 = 0", true}, {"1048576M = 1048576M", true}, {"1024 = 1K", true},
		{"1 + 1 = 2", true}, {"free() = 90", true}, {"size(a) < free()", true}, {"free() < size(a)", false}, {"size(a) = 10", true},
		{"exists(a)", true}, {`exists("a")`, true}, {"exists(b)", false}, {"exists(aa)", false}, {`exists("a${1}")`, false}, {`exists("a.")`, false},
		{"not 1 < 2", false}, {"not 2 < 1", true}, {"not not 1 < 2", true}, {"not not not 1 < 2", false}, {"not exists(b)", true},
		{"1 < 2 and 1 < 2", true}, {"1 < 2 and 2 < 1", false}, {"2 < 1 and 1 < 2", false}, {"2 < 1 and 2 < 1", false},
		{"1 < 2 or 1 < 2", true}, {"1 < 2 or 2 < 1", true}, {"2 < 1 or 1 < 2", true}, {"2 < 1 or 2 < 1", false},
		{"1 < 2 or 1 < 2 and 2 < 1", true}, {"(1 < 2 or 1 < 2) and 2 < 1", false}, {"2 < 1 and 1 < 2 or 1 < 2", true}, {"2 < 1 and (1 < 2 or 1 < 2)", false},
		{"not 1 < 2 or 1 < 2", true}, {"not (1 < 2 or 1 < 2)", false}, {"not 1 < 2 and 2 < 1", false}, {"not (1 < 2 and 2 < 1)", true},
		{"exists(a) and not 90 < free()", true}, {"1 < 2 and 2 < 3 and 3 < 4", true}, {"2 < 1 or 3 < 2 or 3 < 4", true},
	} {
		checkHolds(t, v, c.text, c.want)
	}
}

// All four truths of all pairs, and of three, against the language's own.
func TestP20_2AndOrNot(t *testing.T) {
	words := map[bool]string{true: "0 < 1", false: "1 < 0"}
	for i := range 8 {
		a, b, c := i&1 > 0, i&2 > 0, i&4 > 0
		checkHolds(t, sample(), words[a]+" and "+words[b]+" or "+words[c], a && b || c)
		checkHolds(t, sample(), words[a]+" or "+words[b]+" and "+words[c], a || b && c)
		checkHolds(t, sample(), "("+words[a]+" or "+words[b]+") and "+words[c], (a || b) && c)
		checkHolds(t, sample(), words[a]+" and ("+words[b]+" or "+words[c]+")", a && (b || c))
		checkHolds(t, sample(), "not "+words[a]+" and not ("+words[b]+" or not "+words[c]+")", !a && !(b || !c))
	}
}

// The second of two conditions is reckoned only where the first one does not decide.
func TestP20_2WhereTheFirstDecides(t *testing.T) {
	v := sample()
	faults := []struct {
		text string
		e    api.Errno
	}{
		{"^1 / 0 = 1", api.ErrScopeZero}, {"1 = ^1 % 0", api.ErrScopeZero}, {"^0 - 1 < 1", api.ErrScopeNumber}, {"1 < size(^b)", api.ErrScopeUnknown},
		{`exists(^"${1}")`, api.ErrScopeName}, {`not exists("a${^1 / 0}")`, api.ErrScopeZero}, {`(1 < 2 and ^1 / 0 = 1)`, api.ErrScopeZero},
	}
	for _, f := range faults {
		plain, _ := marked(t, f.text)
		checkHolds(t, v, "1 < 2 or "+plain, true)
		checkHolds(t, v, "2 < 1 and "+plain, false)
		checkHolds(t, v, "exists(a) or "+plain+" or "+plain, true)
		checkHolds(t, v, "exists(b) and "+plain+" and "+plain, false)
		checkHolds(t, v, "not exists(b) or ("+plain+" and "+plain+")", true)
		checkHolds(t, v, "2 < 1 and "+plain+" or 1 < 2", true)
		for _, ahead := range []string{"", "not ", "1 < 2 and ", "2 < 1 or ", "exists(a) and 1 < 2 and ", "2 < 1 or exists(b) or ", "1 < 2 and 2 < 1 or ", "(1 < 2 or 2 < 1) and "} {
			for _, behind := range []string{"", " and 2 < 1", " or 1 < 2", " and 1 / 0 = 2", " or size(c) = 1"} {
				checkFault(t, "when "+ahead+"("+f.text+")"+behind+" { exact; } else { exact; }", f.e)
			}
		}
	}
}

// Of two numbers the first one is reckoned first; the condition stands ahead of its blocks.
func TestP20_2ErrorsOfConditions(t *testing.T) {
	for _, c := range []struct {
		text string
		e    api.Errno
	}{
		{"when ^1 / 0 < size(b) { }", api.ErrScopeZero}, {"when size(^b) < 1 / 0 { }", api.ErrScopeUnknown}, {"when ^1 - 2 = size(b) { }", api.ErrScopeNumber}, {"when size(^b) = 1 - 2 { }", api.ErrScopeUnknown},
		{"when ^1048576M + 1 < 2 { }", api.ErrScopeNumber}, {"when 1 < ^0 - 1 { }", api.ErrScopeNumber},
		{"when ^1 / 0 < 1 { let x = 1 - 2; }", api.ErrScopeZero}, {"when 1 < 2 { let x = ^1 - 2; } else { let x = 1 / 0; }", api.ErrScopeNumber}, {"when 2 < 1 { let x = 1 - 2; } else { let x = ^1 / 0; }", api.ErrScopeZero},
		{"when exists(a) { let x = size(^b); }", api.ErrScopeUnknown},
	} {
		checkFault(t, c.text, c.e)
	}
	// What is not unfolded is not reckoned.
	checkUnfold(t, "when 2 < 1 { let x = 1 - 2; } else { exact; }", "exact@37")
	checkUnfold(t, "when 1 < 2 { exact; } else { let x = 1 - 2; }", "exact@13")
	checkUnfold(t, "when exists(b) { let x = size(b); }", "")
	checkUnfold(t, "when exists(a) and 3 < size(a) or exists(b) and 3 < size(b) { exact; }", "exact@62")
}

// exists asks for the name alone, whatever the volume is.
func TestP20_2ExistsAndTheView(t *testing.T) {
	v := api.View{Free: -7, Volumes: []api.Volume{{Name: "a", Size: -1}, {Name: "b", Kind: api.KindSnap, Size: 1}, {Name: "c", Partial: true}, {Name: "c"}, {Name: "~t"}, {Name: "A"}, {Name: strings.Repeat("n", 31)}}}
	for name, want := range map[string]bool{"a": true, "b": true, "c": true, "d": false, "t": false, "ab": false, strings.Repeat("n", 31): true, strings.Repeat("n", 30): false} {
		checkHolds(t, v, "exists("+name+")", want)
		checkHolds(t, v, `exists("`+name+`")`, want)
	}
	checkHolds(t, api.View{}, "exists(a)", false)
	checkHolds(t, api.View{Volumes: []api.Volume{}}, "exists(a)", false)
}
