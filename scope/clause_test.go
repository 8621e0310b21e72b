package scope_test

import (
	"fmt"
	"slices"
	"strings"
	"testing"

	"cistern/api"
	"cistern/scope"
)

// Each row of the table, with and without what may be left out.
func TestP20_2EachClause(t *testing.T) {
	for _, c := range []struct{ text, want string }{
		{``, ""},
		{`let x = 1;`, ""},
		{`volume v size 3;`, "volume'v'#3@0"},
		{`volume v size 0;`, "volume'v'@0"},
		{`volume v size 1048576M;`, "volume'v'#1099511627776@0"},
		{`volume v size 3 thick;`, "volume'v'#3!@0"},
		{`volume v from a size 3;`, "volume'v'#3<'a'@0"},
		{`volume v from a size 3 thick;`, "volume'v'#3<'a'!@0"},
		{`volume v from v size 3;`, "volume'v'#3<'v'@0"},
		{`volume "v${1}" from "w${2}" size 1 + 2;`, "volume'v1'#3<'w2'@0"},
		{`snapshot of a;`, "snap<'a'@0"},
		{`snapshot of "v${1}";`, "snap<'v1'@0"},
		{`snapshot of nowhere;`, "snap<'nowhere'@0"},
		{`keep 3 of a;`, "keep#3<'a'@0"},
		{`keep 0 of a;`, "keep<'a'@0"},
		{`keep size(a) - 1 of "v${1}";`, "keep#9<'v1'@0"},
		{`absent a;`, "absent'a'@0"},
		{`absent "v${1}";`, "absent'v1'@0"},
		{`rename a to b;`, "rename'a'<'b'@0"},
		{`rename a to a;`, "rename'a'<'a'@0"},
		{`rename "v${1}" to "v${2}";`, "rename'v1'<'v2'@0"},
		{`exact;`, "exact@0"},
		{`repeat i 1 to 2 { exact; }`, "exact@18 exact@18"},
		{`when 1 < 2 { exact; }`, "exact@13"},
		{`when 2 < 1 { exact; }`, ""},
		{`when 1 < 2 { exact; } else { absent a; }`, "exact@13"},
		{`when 2 < 1 { exact; } else { absent a; }`, "absent'a'@29"},
		{`when 1 < 2 { } else { absent a; }`, ""},
		{`when 2 < 1 { exact; } else { }`, ""},
	} {
		checkUnfold(t, c.text, c.want)
	}
}

// In their order, each with the place of its node, the same ones as often as they are unfolded.
func TestP20_2OrderAndPlaces(t *testing.T) {
	checkUnfold(t, `exact; absent a; exact; absent a;`, "exact@0 absent'a'@7 exact@17 absent'a'@24")
	checkUnfold(t, `absent a; when 1 < 2 { absent b; absent c; } absent d;`, "absent'a'@0 absent'b'@23 absent'c'@33 absent'd'@45")
	checkUnfold(t, `repeat i 1 to 2 { absent "a${i}"; repeat k i to 2 { absent "b${k}"; } absent "c${i}"; }`,
		"absent'a1'@18 absent'b1'@52 absent'b2'@52 absent'c1'@70 absent'a2'@18 absent'b2'@52 absent'c2'@70")
	checkUnfold(t, `repeat i 0 to 3 { when i % 2 = 0 { absent "e${i}"; } else { absent "o${i}"; } }`, "absent'e0'@35 absent'o1'@60 absent'e2'@35 absent'o3'@60")
	checkUnfold(t, ` # first
  volume a size 1; # second
	keep 2 of a;`, "volume'a'#1@11 keep#2<'a'@38")

	// A place is the node's, whatever it is.
	n := treeOf(t, `exact; absent a;`)
	n.At, n.Kids[0].At, n.Kids[1].At = 5, -77, 1<<62
	if got, want := told(scope.Unfold(n, sample())), fmt.Sprintf("exact@-77 absent'a'@%d, 0, 0", 1<<62); got != want {
		t.Errorf("Unfold = %s; want %s", got, want)
	}
}

// The kids of a clause in their order: of a volume the name, the number, the source.
func TestP20_2WhichKidStandsFirst(t *testing.T) {
	for _, c := range []struct {
		text string
		e    api.Errno
	}{
		{`volume ^"${1}" from "${2}" size 1 / 0;`, api.ErrScopeName},
		{`volume v from "${2}" size ^1 / 0;`, api.ErrScopeZero},
		{`volume v from ^"${2}" size 1;`, api.ErrScopeName},
		{`volume "v${^1 / 0}" from "${2}" size 1 - 2;`, api.ErrScopeZero},
		{`keep ^1 / 0 of "${1}";`, api.ErrScopeZero},
		{`keep 1 of ^"${1}";`, api.ErrScopeName},
		{`rename ^"${1}" to "v${1 / 0}";`, api.ErrScopeName},
		{`rename "v${1}" to "v${^1 / 0}";`, api.ErrScopeZero},
		{`repeat i ^1 / 0 to size(b) { let x = 1 - 2; }`, api.ErrScopeZero},
		{`repeat i 1 to size(^b) { let x = 1 - 2; }`, api.ErrScopeUnknown},
		{`repeat i 1 to 2 { let x = ^1 - 2; }`, api.ErrScopeNumber},
		{`let x = ^1 - 2; let y = 1 / 0;`, api.ErrScopeNumber},
		{`exact; let y = ^1 / 0; let x = 1 - 2;`, api.ErrScopeZero},
		{`absent ^"${1}"; let x = 1 / 0;`, api.ErrScopeName},
		// A let that nobody asks is reckoned all the same.
		{`let x = ^1 / 0; exact;`, api.ErrScopeZero},
		{`exact; repeat i 1 to 3 { let x = ^2 - i; exact; }`, api.ErrScopeNumber},
	} {
		checkFault(t, c.text, c.e)
	}
}

func TestP20_2Rounds(t *testing.T) {
	for _, c := range []struct{ text, want string }{
		{`repeat i 1 to 1 { absent "v${i}"; }`, "absent'v1'@18"},
		{`repeat i 0 to 0 { absent "v${i}"; }`, "absent'v0'@18"},
		{`repeat i 1 to 0 { absent "v${i}"; }`, ""},
		{`repeat i 1048576M to 0 { absent "v${i}"; }`, ""},
		{`repeat i 1048576M to 1048576M { absent "v${i}"; }`, "absent'v1099511627776'@32"},
		{`repeat i 1099511627775 to 1048576M { absent "v${i}"; }`, "absent'v1099511627775'@37 absent'v1099511627776'@37"},
		{`repeat i 9 to 11 { absent "v${i}"; }`, "absent'v9'@19 absent'v10'@19 absent'v11'@19"},
		{`repeat i size(a) to free() - 79 { absent "v${i}"; }`, "absent'v10'@34 absent'v11'@34"},
		{`repeat i 1 to 3 { let x = i * i; let y = x + 1; absent "v${x}-${y}"; }`, "absent'v1-2'@48 absent'v4-5'@48 absent'v9-10'@48"},
		{`repeat i 1 to 2 { repeat k 2 to i { absent "v${i}${k}"; } }`, "absent'v22'@36"},
		{`repeat i 2 to 1 { repeat k 1 to 2 { absent a; } }`, ""},
		{`repeat i 1 to 2 { repeat k 2 to 1 { absent a; } }`, ""},
		{`repeat i 1 to 2 { repeat k 1 to 2 { repeat l 1 to 2 { absent "v${i * 100 + k * 10 + l}"; } } }`,
			"absent'v111'@54 absent'v112'@54 absent'v121'@54 absent'v122'@54 absent'v211'@54 absent'v212'@54 absent'v221'@54 absent'v222'@54"},
		{`let n = 2; repeat i n to n + 1 { absent "v${i}"; }`, "absent'v2'@33 absent'v3'@33"},
	} {
		checkUnfold(t, c.text, c.want)
	}
	// from and to are reckoned once, ahead of the rounds, also where there is none.
	checkFault(t, `repeat i 2 to ^1 - 2 { }`, api.ErrScopeNumber)
	checkFault(t, `repeat i ^1048576M + 1 to 0 { }`, api.ErrScopeNumber)
}

// The list has 256 clauses at most; the 257th is refused ahead of its kids.
func TestP20_2HowManyClauses(t *testing.T) {
	full := strings.Repeat("exact;", mostClauses)
	if clauses, at, e := scope.Unfold(treeOf(t, full), sample()); len(clauses) != mostClauses || at != 0 || e != api.OK {
		t.Errorf("Unfold of 256 clauses = %d of them, %d, %d", len(clauses), at, e)
	}
	for _, tail := range []string{
		`^exact;`, `^absent a;`, `^volume v size 1;`, `^volume v from a size 1 thick;`, `^snapshot of a;`, `^keep 1 of a;`, `^rename a to b;`,
		// Its kids are not looked at.
		`^volume v size 1 / 0;`, `^volume "${1}" size 1;`, `^absent "${1}";`, `^absent "a${1 / 0}";`, `^keep size(b) of a;`, `^rename a to "${1}";`, `^snapshot of "${1}";`,
		// Wherever it stands.
		`when 1 < 2 { ^exact; }`, `when 2 < 1 { exact; } else { ^absent a; }`, `repeat i 1 to 1M { ^exact; }`, `let x = 1; ^exact; let y = 1 / 0;`, `repeat i 1 to 3 { when i = 3 { let x = 1; ^volume v size x / 0; } }`,
	} {
		checkFault(t, full+tail, api.ErrScopeMany)
	}
	// Lets, repeats and whens are no clauses of the list: they are unfolded still.
	for _, tail := range []string{`let x = 1;`, `repeat i 1 to 2 { }`, `when 1 < 2 { } else { }`, `when 2 < 1 { exact; }`, `repeat i 2 to 1 { exact; }`, `let x = 1; when x < 2 { let y = x; repeat i y to 2 { let z = i; } }`} {
		if clauses, at, e := scope.Unfold(treeOf(t, full+tail), sample()); len(clauses) != mostClauses || at != 0 || e != api.OK {
			t.Errorf("Unfold of 256 clauses and %s = %d of them, %d, %d", tail, len(clauses), at, e)
		}
	}
	checkFault(t, full+`let x = ^1 / 0; exact;`, api.ErrScopeZero)
	checkFault(t, full+`repeat i 1 to size(^b) { exact; }`, api.ErrScopeUnknown)
	checkFault(t, full+`when ^1 - 2 < 1 { exact; }`, api.ErrScopeNumber)
	checkFault(t, full+`when exists(^"${1}") { exact; }`, api.ErrScopeName)

	// However they come to be so many.
	for _, c := range []struct {
		text string
		most int
	}{
		{`repeat i 1 to %d { exact; }`, 256}, {`exact; repeat i 1 to %d { exact; }`, 255}, {`repeat i 1 to %d { exact; let x = i; absent a; }`, 128},
		{`repeat i 1 to %d { repeat k 1 to 16 { exact; } }`, 16}, {`repeat i 1 to %d { when i %% 2 = 0 { exact; } }`, 513}, {`repeat i 1 to 2 { repeat k 1 to %d { exact; } }`, 128},
	} {
		clauses, at, e := scope.Unfold(treeOf(t, fmt.Sprintf(c.text, c.most)), sample())
		if len(clauses) != mostClauses || at != 0 || e != api.OK {
			t.Errorf("Unfold of %s with %d = %d clauses, %d, %d", c.text, c.most, len(clauses), at, e)
		}
		text := fmt.Sprintf(c.text, c.most+1)
		checkFault(t, strings.Replace(text, "{ exact;", "{ ^exact;", 1), api.ErrScopeMany)
	}
}

// 16384 rounds may be begun, by all repeats together.
func TestP20_2HowManyRounds(t *testing.T) {
	for _, text := range []string{
		`repeat i 1 to 16384 { }`, `repeat i 0 to 16383 { }`, `repeat i 1099511611393 to 1048576M { }`,
		`repeat i 1 to 16383 { } repeat i 1 to 1 { }`, `repeat i 1 to 1 { } repeat i 1 to 16383 { }`, `repeat i 1 to 8192 { repeat k 1 to 1 { } }`, `repeat i 1 to 128 { repeat k 1 to 127 { } }`,
		`repeat i 1 to 16384 { } repeat i 2 to 1 { }`, `repeat i 1 to 16384 { repeat k 2 to 1 { } }`, `repeat i 1 to 16384 { } let x = 1; when 1 < 2 { } else { repeat i 1 to 1 { } }`,
		`repeat i 1 to 4096 { } when 1 < 2 { repeat i 1 to 4096 { } } repeat i 1 to 2048 { repeat k 1 to 3 { } }`,
	} {
		checkUnfold(t, text, "")
	}
	for _, text := range []string{
		`^repeat i 1 to 16385 { }`, `^repeat i 0 to 16384 { }`, `^repeat i 0 to 1048576M { }`, `^repeat i 1099511611392 to 1048576M { }`,
		`repeat i 1 to 16384 { } ^repeat i 1 to 1 { }`, `repeat i 1 to 16383 { } ^repeat i 1 to 2 { }`, `repeat i 1 to 1 { } ^repeat i 1 to 16384 { }`, `repeat i 1 to 16384 { } repeat i 2 to 1 { } ^repeat i 5 to 5 { }`,
		// Which of two that lie within one another it is.
		`^repeat i 1 to 8193 { repeat k 1 to 1 { } }`, `repeat i 1 to 128 { ^repeat k 1 to 128 { } }`, `repeat i 1 to 1 { ^repeat k 1 to 16384 { } }`, `^repeat i 1 to 16385 { repeat k 2 to 1 { } }`,
		`^repeat i 1 to 129 { repeat k 1 to 127 { } }`, `repeat i 1 to 2 { repeat k 1 to 8191 { } } ^repeat l 3 to 3 { }`, `repeat i 1 to 2 { repeat k 1 to 8190 { } } repeat l 3 to 4 { } ^repeat l 3 to 3 { }`,
		`repeat i 1 to 16384 { } when 2 < 1 { } else { ^repeat i 1 to 1 { } }`,
		`repeat i 1 to 1M { when i = 16384 { ^repeat k 1 to 1 { } } }`,
		`^repeat i 1 to 1M { when i = 16385 { let x = 1 / 0; } }`,
	} {
		checkFault(t, text, api.ErrScopeMany)
	}
	// from and to stand ahead of it, and so does all in the rounds that were begun.
	checkFault(t, `repeat i 1 to 16384 { } repeat i ^1 / 0 to 1 { }`, api.ErrScopeZero)
	checkFault(t, `repeat i 1 to 16384 { } repeat i 1 to size(^b) { }`, api.ErrScopeUnknown)
	checkFault(t, `repeat i 1 to 1M { when i = 16384 { let x = ^1 / 0; } }`, api.ErrScopeZero)
	checkFault(t, `repeat i 1 to 1M { let x = ^9999 - i; }`, api.ErrScopeNumber)
	checkFault(t, `repeat i 1 to 1M { ^exact; }`, api.ErrScopeMany)
	checkFault(t, `repeat i 1 to 1M { when 16383 < i { exact; } ^repeat k i to 16384 { } }`, api.ErrScopeMany)
	checkUnfold(t, `repeat i 1 to 16384 { when 16383 < i { absent "v${i}"; } }`, "absent'v16384'@39")
}

// A plan as long as may be, with many names bound, gone through in as many rounds as may be.
func TestP20_2LongPlans(t *testing.T) {
	lets := strings.Builder{}
	for i := range 2500 {
		fmt.Fprintf(&lets, "let x%d=%d;", i, i)
	}
	checkUnfold(t, lets.String()+`repeat i 1 to 16384 { let y = x0 + x2499 + i; when y = 18883 { volume v size y; } }`, fmt.Sprintf("volume'v'#18883@%d", lets.Len()+63))
	checkUnfold(t, `repeat i 1 to 100 { `+lets.String()+` }`, "")

	v := sample()
	for i := range 20000 {
		v.Volumes = append(v.Volumes, api.Volume{Name: fmt.Sprint("v", i), Size: i})
	}
	checkOver(t, v, `repeat i 0 to 16383 { when not size("v${i}") = i or not exists("v${i}") { exact; } }`, "")
	slices.Reverse(v.Volumes)
	checkOver(t, v, `repeat i 0 to 16383 { when not size("v${i}") = i or not exists("v${i}") { exact; } }`, "")
}
