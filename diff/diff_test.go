package diff_test

import (
	"math"
	"slices"
	"strings"
	"testing"

	"cistern/api"
	"cistern/diff"
)

// The chapter's table.
func TestP23_1Examples(t *testing.T) {
	checkSteps(t, example(), "volume a size 10", "")
	checkSteps(t, example(), "volume a size 2", "resize a 2")
	checkSteps(t, example(), "volume b from a size 40 thick; volume a size 2", "clone b of a; resize a 2; resize b 40; fill b 0 32; fill b 32 40")
	checkSteps(t, example(), "snapshot of a; keep 1 of a", "snap a@3 of a; delete s")
	checkSteps(t, example(), "snapshot of a; keep 0 of a; absent a", "snap a@3 of a; delete a; delete s; delete a@3")
	checkSteps(t, example(), "rename a to b; volume c size 5 thick", "rename a to b; create c 5; fill c 0 5")
	checkSteps(t, example(), "volume a size 4 thick", "resize a 4")
	checkRefused(t, plan(t, "rename a to b"), example(), example())
}

// Without clauses there is nothing to do, whatever the view is.
func TestP23_1WithoutClauses(t *testing.T) {
	for _, v := range []api.View{example(), crowd(), crowded(crowd(), 64), {Capacity: 1, Next: 1}, {Capacity: 9, Free: 9, Next: 1<<30 + 1}} {
		checkSteps(t, v, "", "")
	}
}

// permutations gives all orders of some texts.
func permutations(parts []string) [][]string {
	if len(parts) < 2 {
		return [][]string{slices.Clone(parts)}
	}
	var out [][]string
	for i := range parts {
		rest := slices.Concat(parts[:i], parts[i+1:])
		for _, behind := range permutations(rest) {
			out = append(out, append([]string{parts[i]}, behind...))
		}
	}
	return out
}

// Each group stands behind the ones ahead of it, in whichever order the clauses stand.
func TestP23_1TheOrderOfGroups(t *testing.T) {
	v := crowd()
	v.Volumes = slices.DeleteFunc(v.Volumes, func(x api.Volume) bool { return x.Name == "q" })
	parts := []string{"rename z to a", "snapshot of t", "absent w", "keep 1 of a", "volume n from t size 75 thick", "volume u size 64"}
	want := "rename z to a; snap t@20 of t; delete y; delete w; clone n of t; resize u 64; resize n 75; fill n 64 75"
	for _, list := range permutations(parts) {
		checkSteps(t, v, strings.Join(list, "; "), want)
	}
}

func TestP23_1Renames(t *testing.T) {
	checkSteps(t, crowd(), "rename t to t", "")
	checkSteps(t, crowd(), "rename gone to t", "")
	checkSteps(t, crowd(), "rename t to a", "rename t to a")
	checkSteps(t, crowd(), "rename y to a", "rename y to a")
	checkSteps(t, crowd(), "rename t to a; rename u to b; rename z to c", "rename z to c; rename u to b; rename t to a")
	checkSteps(t, crowd(), "rename z to c; rename y to b; rename t to t; rename gone to u", "rename z to c; rename y to b")
	checkSteps(t, crowd(), "rename z to y; rename y to z", "rename z to y; rename y to z")
	checkSteps(t, crowd(), "rename y to t; rename t to z; rename z to y", "rename z to y; rename y to t; rename t to z")
	checkSteps(t, crowd(), "rename z to y; rename y to t; rename t to a", "rename z to y; rename y to t; rename t to a")
	checkSteps(t, crowd(), "rename q to a; rename t to q", "rename t to q; rename q to a")
	checkSteps(t, crowd(), "rename t to ~1; rename u to ~2", "rename u to ~2; rename t to ~1")
}

// Names are those behind the renames, in all groups but the first.
func TestP23_1NamesBehindTheRenames(t *testing.T) {
	checkSteps(t, crowd(), "rename t to a; absent a", "rename t to a; delete a")
	checkSteps(t, crowd(), "rename t to u; rename u to t; absent u", "rename u to t; rename t to u; delete u")
	checkSteps(t, crowd(), "rename t to u; rename u to t; absent t", "rename u to t; rename t to u; delete t")
	checkSteps(t, crowd(), "rename t to u; rename u to t; volume t size 1; volume u size 2", "rename u to t; rename t to u; resize t 1; resize u 2")
	checkSteps(t, crowd(), "rename t to u; rename u to t; volume t size 40 thick; volume u size 71 thick",
		"rename u to t; rename t to u; resize t 40; resize u 71; fill t 0 32; fill t 32 40; fill u 64 71")
	checkSteps(t, crowd(), "rename t to u; rename u to t; snapshot of t; snapshot of u", "rename u to t; rename t to u; snap t@20 of t; snap u@21 of u")
	checkSteps(t, crowd(), "rename t to u; rename u to t; volume n from t size 100; volume m from u size 70", "rename u to t; rename t to u; clone n of t; clone m of u")
	checkSteps(t, crowd(), "rename z to t; rename t to z; keep 0 of z", "rename z to t; rename t to z")
	// A name that was left is free for a new volume, and one that was taken is not.
	checkSteps(t, crowd(), "rename t to a; volume t size 5", "rename t to a; create t 5")
	checkSteps(t, crowd(), "rename t to a; volume t from a size 70", "rename t to a; clone t of a")
	checkSteps(t, crowd(), "rename u to a; volume a size 5", "rename u to a; resize a 5")
}

func TestP23_1Snapshots(t *testing.T) {
	checkSteps(t, crowd(), "snapshot of t", "snap t@20 of t")
	checkSteps(t, crowd(), "snapshot of y", "snap y@20 of y")
	checkSteps(t, crowd(), "snapshot of z; snapshot of t; snapshot of z", "snap z@20 of z; snap t@21 of t; snap z@22 of z")
	checkSteps(t, crowd(), "snapshot of a; rename t to a; snapshot of u", "rename t to a; snap a@20 of a; snap u@21 of u")
	checkSteps(t, crowd(), "snapshot of t; snapshot of t@20; snapshot of t@20@21", "snap t@20 of t; snap t@20@21 of t@20; snap t@20@21@22 of t@20@21")
	checkSteps(t, crowd(), "snapshot of z; snapshot of z; snapshot of z; keep 1 of z; absent q", "snap z@20 of z; snap z@21 of z; snap z@22 of z; delete y; delete x; delete q; delete z@20; delete z@21")
	checkSteps(t, crowd(), "snapshot of u; snapshot of u@20; absent u@20@21", "snap u@20 of u; snap u@20@21 of u@20; delete u@20@21")
	checkSteps(t, crowd(), "snapshot of t; volume t size 3", "snap t@20 of t; resize t 3")
	v := crowd()
	v.Next = 1<<30 - 1
	checkSteps(t, v, "snapshot of u; snapshot of z", "snap u@1073741823 of u; snap z@1073741824 of z")
}

func TestP23_1Deletes(t *testing.T) {
	checkSteps(t, crowd(), "absent gone", "")
	checkSteps(t, crowd(), "keep 2 of z; keep 0 of t", "")
	checkSteps(t, crowd(), "absent u", "delete u")
	checkSteps(t, crowd(), "absent o; absent p", "delete p; delete o")
	checkSteps(t, crowd(), "absent p; absent t; absent u", "delete u; delete t; delete p")
	checkSteps(t, crowd(), "keep 0 of z; absent q", "delete y; delete x; delete q")
	checkSteps(t, crowd(), "absent x; keep 1 of z; absent y; absent q; absent x", "delete y; delete x; delete q")
	checkSteps(t, crowd(), "exact; keep 0 of z; rename t to a", "rename t to a; delete y; delete x; delete w; delete u; delete q; delete p; delete o")
	checkSteps(t, crowd(), "exact; keep 0 of z; absent z; absent t", "delete z; delete y; delete x; delete w; delete u; delete t; delete q; delete p; delete o")
	// What was there goes ahead of what is fresh, which has the greater ID.
	checkSteps(t, crowd(), "snapshot of u; snapshot of z; absent u@20; absent z@21; absent t", "snap u@20 of u; snap z@21 of z; delete t; delete u@20; delete z@21")
}

func TestP23_1Makings(t *testing.T) {
	checkSteps(t, crowd(), "volume b size 7", "create b 7")
	checkSteps(t, crowd(), "volume b size 262144; volume a size 1", "create b 262144; create a 1")
	checkSteps(t, crowd(), "volume b from z size 80", "clone b of z")
	checkSteps(t, crowd(), "volume b from y size 40; volume a size 3; volume c from t size 70", "clone b of y; create a 3; clone c of t")
	// In the order of making, which is that of the IDs: not of the clauses, and not of the names.
	checkSteps(t, crowd(), "volume a from b size 5; volume b from c size 5; volume c size 5; volume d size 5", "create c 5; clone b of c; clone a of b; create d 5")
	checkSteps(t, crowd(), "volume d size 5; volume a from c size 5; volume b from a size 5; volume c from d size 5", "create d 5; clone c of d; clone a of c; clone b of a")
	checkSteps(t, crowd(), "volume b from u@20 size 100; snapshot of u; volume a from b size 100", "snap u@20 of u; clone b of u@20; clone a of b")
	// A volume that is there is not made.
	checkSteps(t, crowd(), "volume q from y size 20; volume w from z size 50", "")
}

func TestP23_1Resizes(t *testing.T) {
	checkSteps(t, crowd(), "volume z size 80; volume u size 100", "")
	checkSteps(t, crowd(), "volume z size 1", "resize z 1")
	checkSteps(t, crowd(), "volume z size 262144", "resize z 262144")
	checkSteps(t, crowd(), "volume q size 19; volume t size 71; volume z size 79", "resize z 79; resize t 71; resize q 19")
	checkSteps(t, crowd(), "volume t size 69; volume w size 51", "resize w 51; resize t 69")
	checkSteps(t, crowd(), "volume p size 40; volume o size 3", "")
	// Of what is there and of what is new: that which is there has the lower ID.
	checkSteps(t, crowd(), "volume a from z size 79; volume t size 5; volume b from w size 51", "clone a of z; clone b of w; resize t 5; resize a 79; resize b 51")
	// What is created has its size.
	checkSteps(t, crowd(), "volume a size 5; volume b size 262144", "create a 5; create b 262144")
}

// A clause wants a goal, and that one alone: each of its fields may differ, and it is another one.
func TestP23_1GoalsThatAreAnother(t *testing.T) {
	for _, text := range []string{"", "volume t size 5", "volume n from z size 40 thick; absent u", "rename z to a; snapshot of a; keep 1 of a; absent q"} {
		cs := plan(t, text)
		want := goalOf(t, cs, crowd())
		turn := func(change func(g *api.View)) {
			g := copied(want)
			change(&g)
			checkRefused(t, cs, crowd(), g)
		}
		turn(func(g *api.View) { g.Capacity++ })
		turn(func(g *api.View) { g.Capacity = 0 })
		turn(func(g *api.View) { g.Next++ })
		turn(func(g *api.View) { g.Next-- })
		turn(func(g *api.View) { g.Volumes = nil })
		turn(func(g *api.View) { g.Volumes = g.Volumes[1:] })
		turn(func(g *api.View) { g.Volumes = g.Volumes[:len(g.Volumes)-1] })
		turn(func(g *api.View) { g.Volumes = append(g.Volumes, api.Volume{Name: "zz", ID: 2, Size: 1}) })
		turn(func(g *api.View) { slices.Reverse(g.Volumes) })
		turn(func(g *api.View) { *g = api.View{} })
		for i := range want.Volumes {
			turn(func(g *api.View) { g.Volumes[i].Name += "0" })
			turn(func(g *api.View) { g.Volumes[i].ID = 2 })
			turn(func(g *api.View) { g.Volumes[i].Size++ })
			turn(func(g *api.View) { g.Volumes[i].Origin = 2 })
			turn(func(g *api.View) { g.Volumes[i].Kind = 1 - g.Volumes[i].Kind })
			turn(func(g *api.View) { g.Volumes[i].Partial = !g.Volumes[i].Partial })
			turn(func(g *api.View) { g.Volumes[i].Mapped = append(g.Volumes[i].Mapped, api.Range{From: 200, To: 201}) })
			if len(want.Volumes[i].Mapped) > 0 {
				turn(func(g *api.View) { g.Volumes[i].Mapped[0].To++ })
				turn(func(g *api.View) { g.Volumes[i].Mapped = g.Volumes[i].Mapped[1:] })
			}
		}
		for _, free := range []int{0, 1, 999, 1000, 1001, -1, math.MaxInt, math.MinInt} {
			g := copied(want)
			g.Free = free
			first, e := diff.Steps(cs, crowd(), want)
			ops, err := diff.Steps(cs, crowd(), g)
			isEmpty, emptyErr := diff.Empty(cs, crowd(), g)
			if e != api.OK || err != api.OK || toldSteps(t, ops) != toldSteps(t, first) || isEmpty != (text == "") || emptyErr != api.OK {
				t.Errorf("Free %d: Steps(%s) = %v, %d; it was %v, %d; Empty: %v, %d", free, text, ops, err, first, e, isEmpty, emptyErr)
			}
		}
	}
}

// Where the clauses denote nothing no goal is one, whatever the condition is that fails.
func TestP23_1ClausesThatDenoteNothing(t *testing.T) {
	for _, text := range []string{
		"rename yy to zz; rename yy to y", "rename a to b", "rename t to u", "rename p to a", "snapshot of gone", "snapshot of p",
		"volume t size 0", "volume t size 262145", "volume y size 40", "volume t from u size 70", "volume b from gone size 1", "volume p size 41",
		"volume o size 3 thick", "volume a from b size 1; volume b from a size 1", "keep 1 of gone", "keep 1 of z; keep 1 of z", "volume t size 70; absent t",
		"absent z", "exact", "volume t size 70; volume t size 70",
	} {
		for _, g := range []api.View{crowd(), {}, {Capacity: 1000, Next: 20}} {
			checkRefused(t, plan(t, text), crowd(), g)
		}
	}
	full := crowded(crowd(), 64)
	checkRefused(t, plan(t, "snapshot of z"), full, full)
	checkRefused(t, plan(t, "volume b size 1"), full, full)
	full.Next = 1<<30 + 1
	checkRefused(t, plan(t, "absent t; volume b size 1"), full, full)
}

// With nearly as many volumes as may be what goes makes room for what is made.
func TestP23_3WhereRoomIsLittle(t *testing.T) {
	v := crowded(crowd(), 64)
	checkSteps(t, v, "absent v20; volume a size 1; absent v21; volume b from a size 2", "delete v20; delete v21; create a 1; clone b of a; resize b 2")
	v = crowded(crowd(), 62)
	checkSteps(t, v, "snapshot of u; snapshot of u; keep 0 of u; volume b size 1; volume a size 1",
		"snap u@1000 of u; snap u@1001 of u; delete u@1000; delete u@1001; create b 1; create a 1")
}

// Empty tells whether there is no step: of each group one step is enough.
func TestP23_2Empty(t *testing.T) {
	for text, want := range map[string]int{
		"": 1, "volume z size 80; keep 2 of z; absent gone; rename t to t": 1, "volume t size 70 thick": 1, "volume p size 40 thick": 1,
		"rename t to a": 0, "snapshot of t": 0, "absent u": 0, "volume a size 1": 0, "volume a from z size 80": 0, "volume t size 71": 0, "volume u size 100 thick": 0,
		"snapshot of t; absent t@20": 0,
	} {
		cs := plan(t, text)
		if isEmpty, e := diff.Empty(cs, crowd(), goalOf(t, cs, crowd())); isEmpty != (want == 1) || e != api.OK {
			t.Errorf("Empty(%s) = %v, %d", text, isEmpty, e)
		}
	}
	if isEmpty, e := diff.Empty(plan(t, "rename t to a"), crowd(), crowd()); isEmpty || e != api.ErrDiffGoal {
		t.Errorf("Empty with another goal = %v, %d", isEmpty, e)
	}
	if isEmpty, e := diff.Empty(nil, crowd(), example()); isEmpty || e != api.ErrDiffGoal {
		t.Errorf("Empty with another goal, without clauses = %v, %d", isEmpty, e)
	}
}

// Where the goal is the view, and behind the steps, nothing is to be done.
func TestP23_4NothingToDo(t *testing.T) {
	for _, text := range []string{
		"volume z size 80; volume t size 70 thick; keep 2 of z; absent gone; rename gone to t; rename u to u", "volume w from z size 50; volume q from y size 20",
		"volume z size 81 thick; volume b from z size 40 thick; volume c from b size 33", "absent u; keep 1 of z; absent q", "exact; keep 0 of z; volume t size 3",
		"rename t to a; rename u to b; volume n size 70 thick; volume m from n size 71 thick",
	} {
		cs := plan(t, text)
		g := goalOf(t, cs, crowd())
		checkDone(t, cs, crowd())
		if ops, e := diff.Steps(cs, g, g); len(ops) > 0 || e != api.OK {
			t.Errorf("Steps(%s) over the goal = %s, %d", text, toldSteps(t, ops), e)
		}
		if isEmpty, e := diff.Empty(cs, g, g); !isEmpty || e != api.OK {
			t.Errorf("Empty(%s) over the goal = %v, %d", text, isEmpty, e)
		}
	}
	// A fresh snapshot is taken each time, also where it goes at once and but for the next ID the goal is the view.
	cs := plan(t, "snapshot of t; absent t@20")
	if ops, e := diff.Steps(cs, crowd(), goalOf(t, cs, crowd())); toldSteps(t, ops) != "snap t@20 of t; delete t@20" || e != api.OK {
		t.Errorf("Steps = %s, %d", toldSteps(t, ops), e)
	}
}
