package goal_test

import (
	"fmt"
	"math"
	"slices"
	"strings"
	"testing"

	"cistern/api"
	"cistern/goal"
)

// The chapter's table.
func TestP22_1Examples(t *testing.T) {
	const s = "; s 2 10 1 1 0..3"
	checkGoal(t, example(), "volume a size 2", "100 80 3; a 1 2 0 0 0..2"+s)
	checkGoal(t, example(), "volume b from a size 20 thick; volume a size 2", "100 80 4; a 1 2 0 0 0..2; b 3 20 1 0 0..20"+s)
	checkGoal(t, example(), "volume c from b size 5; volume b from a size 10", "100 80 5; a 1 10 0 0 0..4; b 3 10 1 0 0..4; c 4 5 3 0 0..4"+s)
	checkRefused(t, example(), "^volume c from b size 5; volume b from c size 5", api.ErrGoalCircle)
	checkGoal(t, example(), "snapshot of a; keep 1 of a", "100 80 4; a 1 10 0 0 0..4; a@3 3 10 1 1 0..4")
	checkGoal(t, example(), "keep 0 of a; absent a", "100 80 3")
	checkRefused(t, example(), "^absent a", api.ErrGoalChildren)
	checkGoal(t, example(), "rename a to b; rename s to a", "100 80 3; a 2 10 1 1 0..3; b 1 10 0 0 0..4")
	checkRefused(t, example(), "^rename a to s", api.ErrGoalRename)
	checkGoal(t, example(), "rename z to a", asExample)
	checkRefused(t, example(), "^rename z to y", api.ErrGoalRename)
	checkRefused(t, example(), "^volume s size 3", api.ErrGoalKind)
	checkRefused(t, example(), "^volume a size 0", api.ErrGoalSize)
	checkRefused(t, example(), "^volume a from s size 10", api.ErrGoalOrigin)
	checkRefused(t, example(), "volume a size 3; ^absent a", api.ErrGoalTwice)
	checkRefused(t, example(), "^exact", api.ErrGoalChildren)
}

// A plan without clauses denotes the view.
func TestP22_3WithoutClauses(t *testing.T) {
	for _, v := range []api.View{example(), crowd(), crowded(crowd(), 64), {Capacity: 1, Next: 1}, {Capacity: 9, Free: 9, Next: 1<<30 + 1}} {
		for _, cs := range [][]api.Clause{nil, {}, make([]api.Clause, 0, 4)} {
			if got, at, e := goal.Goal(cs, v); told(got) != told(v) || at != 0 || e != api.OK {
				t.Errorf("Goal(none) over %s\n= %s, %d, %d", told(v), told(got), at, e)
			}
			if names, at, e := goal.Fresh(cs, v); len(names) != 0 || at != 0 || e != api.OK {
				t.Errorf("Fresh(none) over %s = %q, %d, %d", told(v), names, at, e)
			}
		}
	}
}

// The place that is answered is that of the clause, whatever it is; with OK it is 0.
func TestP22_1WhichPlaceIsTold(t *testing.T) {
	for _, at := range []int{0, -1, 7, 65535, 1 << 40, math.MaxInt, math.MinInt} {
		for _, text := range []string{"rename z to y", "snapshot of z", "volume s size 1", "volume x from x size 1", "keep 1 of z", "absent a", "exact"} {
			cs := plan(t, text)
			cs[0].At = at
			_, want := checkAsModel(t, cs, example())
			if got, place, e := goal.Goal(cs, example()); told(got) != zero || place != at || e != want || e == api.OK {
				t.Errorf("Goal(%s at %d) = %s, %d, %d", text, at, told(got), place, e)
			}
		}
		for _, text := range []string{"rename a to b", "snapshot of a", "volume a size 1", "volume x from a size 1", "keep 1 of a", "absent s"} {
			cs := plan(t, text)
			cs[0].At = at
			if _, place, e := goal.Goal(cs, example()); place != 0 || e != api.OK {
				t.Errorf("Goal(%s at %d) = %d, %d", text, at, place, e)
			}
			if _, place, e := goal.Fresh(cs, example()); place != 0 || e != api.OK {
				t.Errorf("Fresh(%s at %d) = %d, %d", text, at, place, e)
			}
		}
	}
}

// Of clauses that fail in two steps each the earlier step's is told, in whichever order they stand.
func TestP22_1TheOrderOfSteps(t *testing.T) {
	failures := []struct {
		text string
		e    api.Errno
	}{
		{"rename yy to zz; ^rename yy to y", api.ErrGoalTwice},
		{"^rename yyy to zzz", api.ErrGoalRename},
		{"^snapshot of zy", api.ErrGoalUnknown},
		{"^volume b size 0", api.ErrGoalSize},
		{"^volume x from xx size 1; volume xx from x size 1", api.ErrGoalCircle},
		{"^keep 1 of zx", api.ErrGoalUnknown},
		{"volume v20 size 1; ^absent v20", api.ErrGoalTwice},
		{"^absent p", api.ErrGoalChildren},
		{"^volume n size 1; volume o size 1", api.ErrCatalogFull},
	}
	v := crowded(crowd(), 64)
	for i, first := range failures {
		checkRefused(t, v, first.text, first.e)
		for _, later := range failures[i+1:] {
			behind := strings.ReplaceAll(later.text, "^", "")
			checkRefused(t, v, first.text+"; "+behind, first.e)
			checkRefused(t, v, behind+"; "+first.text, first.e)
		}
	}
}

// Clauses are meant by their kinds: where in the list those of other kinds stand turns nothing.
func TestP22_1KindsBesideOneAnother(t *testing.T) {
	parts := []string{"rename a to b", "snapshot of b", "volume c from b size 2 thick", "keep 1 of b", "absent s", "exact"}
	want := "100 80 5; b 1 10 0 0 0..4; b@3 3 10 1 1 0..4; c 4 2 1 0 0..2"
	for i := range parts {
		for k := range parts {
			list := slices.Clone(parts)
			list[i], list[k] = list[k], list[i]
			checkGoal(t, example(), strings.Join(list, "; "), want)
			slices.Reverse(list)
			checkGoal(t, example(), strings.Join(list, "; "), want)
		}
	}
}

// What P22.3 says of goals, over drawn plans and views.
func TestP22_3WhatHoldsOfGoals(t *testing.T) {
	d := &drawing{seed: 3}
	done := 0
	for range 20000 {
		v := d.view()
		cs := d.plan(v)
		g, _, e := goal.Goal(cs, v)
		if e != api.OK {
			continue
		}
		names, _, _ := goal.Fresh(cs, v)
		checkMayBe(t, g)
		checkNumbers(t, cs, v, g, names)
		checkOldOnes(t, cs, v, g)
		if done++; t.Failed() {
			t.Fatalf("Goal(%s) over %s = %s", toldPlan(cs), told(v), told(g))
		}
	}
	if done < 4000 {
		t.Errorf("%d plans were done", done)
	}
}

// checkMayBe holds that a view is one that may be.
func checkMayBe(t *testing.T, v api.View) {
	t.Helper()
	if v.Capacity < 1 || v.Capacity > 262144 || v.Free < 0 || v.Free > v.Capacity || v.Next < 1 || v.Next > 1<<30+1 || len(v.Volumes) > 64 {
		t.Errorf("no view: %s", told(v))
	}
	ids := map[int]bool{}
	for i, x := range v.Volumes {
		isOne := len(x.Name) > 0 && len(x.Name) <= 31 && strings.Trim(x.Name, "abcdefghijklmnopqrstuvwxyz0123456789.-_@~") == ""
		isOne = isOne && x.ID >= 1 && x.ID < v.Next && x.Size >= 1 && x.Size <= 262144 && x.Origin >= 0 && x.Origin < x.ID && (x.Kind == 0 || x.Kind == 1)
		if !isOne || ids[x.ID] || i > 0 && v.Volumes[i-1].Name >= x.Name {
			t.Errorf("no volume: %s in %s", x.Name, told(v))
		}
		ids[x.ID] = true
		end := -1
		for _, r := range x.Mapped {
			if r.From <= end || r.To <= r.From || r.To > x.Size {
				t.Errorf("no ranges: of %s in %s", x.Name, told(v))
			}
			end = r.To
		}
	}
}

// checkNumbers holds how much Next has grown by, and who has the new numbers.
func checkNumbers(t *testing.T, cs []api.Clause, v api.View, g api.View, names []string) {
	t.Helper()
	snaps, made := 0, 0
	for _, c := range cs {
		if c.Kind == api.ClauseSnap {
			snaps++
		}
	}
	for _, x := range g.Volumes {
		switch {
		case x.ID >= v.Next+snaps:
			made++
			isClauses := func(c api.Clause) bool { return c.Kind == api.ClauseVolume && c.Name == x.Name && c.Number == x.Size }
			if !slices.ContainsFunc(cs, isClauses) || x.Kind != api.KindVolume || x.Partial {
				t.Errorf("%s was made", x.Name)
			}
		case x.ID >= v.Next:
			if names[x.ID-v.Next] != x.Name || x.Kind != api.KindSnap || x.Partial || !strings.HasSuffix(x.Name, fmt.Sprintf("@%d", x.ID)) {
				t.Errorf("%s is fresh; fresh are %q", x.Name, names)
			}
		}
	}
	if g.Next != v.Next+snaps+made || len(names) != snaps || g.Capacity != v.Capacity || g.Free != v.Free {
		t.Errorf("%d snapshots, %d made, fresh are %q, next %d, then %d", snaps, made, names, v.Next, g.Next)
	}
}

// checkOldOnes holds that a volume that no volume clause names is as it was, but for its name.
func checkOldOnes(t *testing.T, cs []api.Clause, v api.View, g api.View) {
	t.Helper()
	for _, x := range g.Volumes {
		isNamed := func(c api.Clause) bool { return c.Kind == api.ClauseVolume && c.Name == x.Name }
		i := slices.IndexFunc(v.Volumes, func(old api.Volume) bool { return old.ID == x.ID })
		if i < 0 {
			continue
		}
		old := v.Volumes[i]
		if old.Partial != x.Partial || old.Origin != x.Origin || old.Kind != x.Kind {
			t.Errorf("%s is another than %s was", x.Name, old.Name)
		}
		if !slices.ContainsFunc(cs, isNamed) && (old.Size != x.Size || !slices.Equal(old.Mapped, x.Mapped)) {
			t.Errorf("%s is not as %s was", x.Name, old.Name)
		}
		isMoved := func(c api.Clause) bool {
			return c.Kind == api.ClauseRename && c.Name == old.Name && c.Other == x.Name
		}
		if old.Name != x.Name && !slices.ContainsFunc(cs, isMoved) {
			t.Errorf("%s is called %s", old.Name, x.Name)
		}
	}
}
