package goal_test

import (
	"fmt"
	"math"
	"slices"
	"strings"
	"sync"
	"testing"

	"cistern/api"
	"cistern/goal"
)

// laid gives a view whose lists of ranges lie one behind the other in one array, each with all that is behind it as spare room;
// its list of volumes has spare room too. The array is handed out, to be looked at.
func laid(v api.View) (api.View, []api.Range) {
	var all []api.Range
	for _, x := range v.Volumes {
		all = append(all, x.Mapped...)
	}
	for i := range 20 {
		all = append(all, api.Range{From: 1000 + i, To: 2000 + i})
	}
	all = slices.Clip(all)
	at := 0
	volumes := make([]api.Volume, len(v.Volumes), len(v.Volumes)+5)
	for i, x := range v.Volumes {
		n := len(x.Mapped)
		x.Mapped = all[at : at+n]
		at += n
		volumes[i] = x
	}
	for i := range 5 {
		volumes[:cap(volumes)][len(volumes)+i] = api.Volume{Name: "spare", ID: 77, Mapped: all[at:]}
	}
	v.Volumes = volumes
	return v, all
}

// spareOf tells what lies in and behind a view's list of volumes.
func spareOf(v api.View) string {
	v.Volumes = v.Volumes[:cap(v.Volumes)]
	return told(v)
}

// spared gives clauses with spare room behind them.
func spared(cs []api.Clause) []api.Clause {
	out := append(make([]api.Clause, 0, len(cs)+3), cs...)
	for i := range 3 {
		out[:cap(out)][len(cs)+i] = api.Clause{Kind: api.ClauseAbsent, Name: "spare"}
	}
	return out
}

// plans are texts that come to a goal over the example, and some that are refused.
func plans() []string {
	return []string{
		"", "volume a size 2", "volume a size 1", "volume a size 20 thick", "volume b from a size 20", "volume b from a size 3; volume c from a size 2; volume d from s size 10",
		"volume b from a size 10; volume c from b size 10; volume a size 2", "snapshot of a; snapshot of a; snapshot of s", "rename a to s; rename s to a", "rename a to z; rename s to b; volume z size 3",
		"keep 0 of a", "keep 0 of a; absent a", "snapshot of a; keep 1 of a", "absent s; volume n size 5; exact; keep 0 of a", "volume n size 5 thick; volume m from n size 3",
		"snapshot of a; volume n from a@3 size 30; volume a size 3; volume m from a size 7 thick", "snapshot of a; absent a", "volume n size 5; volume o from p size 1", "exact", "rename a to s",
	}
}

func TestR4WhatIsHandedInStays(t *testing.T) {
	for _, text := range plans() {
		for _, given := range []api.View{example(), crowd(), crowded(example(), 64), three()} {
			v, all := laid(given)
			cs := spared(plan(t, text))
			before, array, clauses := spareOf(v), slices.Clone(all), toldPlan(cs[:cap(cs)])
			goal.Goal(cs, v)
			goal.Fresh(cs, v)
			if spareOf(v) != before || !slices.Equal(all, array) || toldPlan(cs[:cap(cs)]) != clauses {
				t.Errorf("%s: %s has become %s, %s", text, before, spareOf(v), toldPlan(cs[:cap(cs)]))
			}
		}
	}
}

// spoil writes over all that an answer holds, its spare room too.
func spoil(v api.View) {
	for i := range v.Volumes {
		mapped := v.Volumes[i].Mapped[:cap(v.Volumes[i].Mapped)]
		for k := range mapped {
			mapped[k] = api.Range{From: -5, To: -6}
		}
	}
	volumes := v.Volumes[:cap(v.Volumes)]
	for i := range volumes {
		volumes[i] = api.Volume{Name: "spoilt", ID: -1}
	}
}

// What is handed out is new: who writes over it changes neither what was handed in nor what is answered later.
func TestR4WhatIsHandedOutIsNew(t *testing.T) {
	for _, text := range plans() {
		v, cs := example(), plan(t, text)
		before, clauses := told(v), toldPlan(cs)
		first, _, _ := goal.Goal(cs, v)
		names, _, _ := goal.Fresh(cs, v)
		want, wantNames := told(first), strings.Join(names, " ")
		second, _, _ := goal.Goal(cs, v)
		spoil(first)
		for i := range names[:cap(names)] {
			names[:cap(names)][i] = "spoilt"
		}
		third, _, _ := goal.Goal(cs, v)
		names, _, _ = goal.Fresh(cs, v)
		if told(second) != want || told(third) != want || strings.Join(names, " ") != wantNames || told(v) != before || toldPlan(cs) != clauses {
			t.Errorf("%s: who writes over what was answered changes %s, %s, %q, %s", text, told(second), told(third), names, told(v))
		}
	}
}

// checkApart holds that no two lists of an answer share a place, their spare room neither.
func checkApart(t *testing.T, v api.View) {
	t.Helper()
	for i := range v.Volumes {
		mapped := v.Volumes[i].Mapped[:cap(v.Volumes[i].Mapped)]
		for k := range mapped {
			mapped[k] = api.Range{From: i, To: k}
		}
	}
	for i := range v.Volumes {
		mapped := v.Volumes[i].Mapped[:cap(v.Volumes[i].Mapped)]
		for k, r := range mapped {
			if r != (api.Range{From: i, To: k}) {
				t.Errorf("the list of volume %d shares its place %d with that of volume %d", i, k, r.From)
				return
			}
		}
	}
}

func TestR4NoTwoListsShare(t *testing.T) {
	for _, text := range plans() {
		v, _ := laid(example())
		got, _, _ := goal.Goal(plan(t, text), v)
		want := told(got)
		for _, x := range got.Volumes {
			_ = append(x.Mapped, ranges(-1, -2, -3, -4, -5, -6)...)
		}
		_ = append(got.Volumes, api.Volume{Name: "more"})
		if told(got) != want {
			t.Errorf("%s: %s has become %s", text, want, told(got))
		}
		checkApart(t, got)
	}
}

// What is handed in is not kept: written over behind the call, it changes nothing that was answered.
func TestR4WhatIsHandedInIsNotKept(t *testing.T) {
	for _, text := range plans() {
		v, all := laid(example())
		cs := plan(t, text)
		got, _, _ := goal.Goal(cs, v)
		want := told(got)
		spoil(v)
		for i := range all {
			all[i] = api.Range{From: 7, To: 77}
		}
		for i := range cs {
			cs[i] = api.Clause{Kind: 99}
		}
		if told(got) != want {
			t.Errorf("%s: %s has become %s", text, want, told(got))
		}
	}
}

// Nil and empty lists are one.
func TestR1NoneAndEmpty(t *testing.T) {
	for _, volumes := range [][]api.Volume{nil, {}, make([]api.Volume, 0, 5)} {
		v := api.View{Capacity: 9, Free: 4, Next: 7, Volumes: volumes}
		checkGoal(t, v, "", "9 4 7")
		checkGoal(t, v, "volume a size 3; absent b; exact", "9 4 8; a 7 3 0 0")
		checkRefused(t, v, "^snapshot of a", api.ErrGoalUnknown)
	}
	for _, mapped := range [][]api.Range{nil, {}, make([]api.Range, 0, 5)} {
		v := api.View{Capacity: 9, Free: 4, Next: 7, Volumes: []api.Volume{{Name: "a", ID: 5, Size: 3, Mapped: mapped}}}
		checkGoal(t, v, "volume a size 2; volume b from a size 1; snapshot of a", "9 4 9; a 5 2 0 0; a@7 7 3 5 1; b 8 1 5 0")
		checkGoal(t, v, "volume a size 4 thick", "9 4 7; a 5 4 0 0 0..4")
	}
}

// Asked twice, and many times at once, the answers are the same.
func TestR5AskedAgain(t *testing.T) {
	d := &drawing{seed: 5}
	type asked struct {
		cs   []api.Clause
		v    api.View
		want string
	}
	answer := func(cs []api.Clause, v api.View) string {
		g, at, e := goal.Goal(cs, v)
		names, place, err := goal.Fresh(cs, v)
		return fmt.Sprint(told(g), at, e, names, place, err)
	}
	var all []asked
	for range 3000 {
		v := d.view()
		cs := d.plan(v)
		all = append(all, asked{cs, v, answer(cs, v)})
	}
	wrong := make([]string, 4)
	wait := sync.WaitGroup{}
	for i := range wrong {
		wait.Go(func() {
			for _, a := range slices.Backward(all) {
				if got := answer(a.cs, a.v); got != a.want {
					wrong[i] = got + "; it was " + a.want
				}
			}
		})
	}
	wait.Wait()
	for _, text := range wrong {
		if text != "" {
			t.Errorf("asked again: %s", text)
		}
	}
}

// wildNumber draws a number that mostly may not be.
func (d *drawing) wildNumber() int {
	return d.number(0, 0, 1, 1, 2, 3, 5, 7, 10, 20, -1, -7, 64, 262144, 262145, 1<<30, 1<<30+1, 1<<40, math.MaxInt, math.MaxInt-1, math.MinInt, math.MinInt+1)
}

// wildName draws a name of few, of which some may not be.
func (d *drawing) wildName() string {
	return d.text("", "a", "b", "c", "a", "b", "c", "A", "-", "a b", "\x00", "é", "a@1", "b@7", strings.Repeat("a", 31), strings.Repeat("b", 400))
}

// wild draws a view that may not be: of any numbers, in any order, ranges of all kinds.
func (d *drawing) wild() api.View {
	v := api.View{Capacity: d.wildNumber(), Free: d.wildNumber(), Next: d.wildNumber()}
	for range d.number(0, 1, 2, 3, 4, 5, 5, 63, 64, 65, 100) {
		x := api.Volume{Name: d.wildName(), ID: d.wildNumber(), Size: d.wildNumber(), Origin: d.wildNumber(), Kind: d.number(0, 0, 1, 1, 2, -1), Partial: d.below(8) == 0}
		for range d.below(7) {
			x.Mapped = append(x.Mapped, api.Range{From: d.wildNumber(), To: d.wildNumber()})
		}
		v.Volumes = append(v.Volumes, x)
	}
	return v
}

func (d *drawing) wildClause() api.Clause {
	return api.Clause{
		Kind: d.number(1, 1, 2, 3, 3, 4, 5, 6, 0, 7, -1, math.MaxInt), Name: d.wildName(), Other: d.wildName(), Number: d.wildNumber(), Thick: d.below(2) == 0, At: d.wildNumber(),
	}
}

// Over views and clauses that may not be the calls end and do not panic; what is handed in stays, and what is handed out is new.
func TestP22_1WhatMayNotBe(t *testing.T) {
	d := &drawing{seed: 9}
	met := map[api.Errno]int{}
	for i := range 12000 {
		v, all := laid(d.wild())
		if i%3 == 0 {
			v, all = laid(d.view())
		}
		var cs []api.Clause
		for range d.below(7) {
			cs = append(cs, d.wildClause())
		}
		cs = spared(cs)
		before, array, clauses := spareOf(v), slices.Clone(all), toldPlan(cs[:cap(cs)])
		got, at, e := goal.Goal(cs, v)
		again, atAgain, _ := goal.Goal(cs, v)
		names, place, err := goal.Fresh(cs, v)
		if told(got) != told(again) || at != atAgain || e != api.OK && told(got) != zero || err != api.OK && (len(names) != 0 || e != err || at != place) {
			t.Fatalf("Goal(%s) over %s = %s, %d, %d; %s, %d; Fresh = %q, %d, %d", clauses, before, told(got), at, e, told(again), atAgain, names, place, err)
		}
		met[e]++
		checkApart(t, got)
		spoil(got)
		if spareOf(v) != before || !slices.Equal(all, array) || toldPlan(cs[:cap(cs)]) != clauses {
			t.Fatalf("R4: %s has become %s, %s", before, spareOf(v), toldPlan(cs[:cap(cs)]))
		}
	}
	for _, e := range []api.Errno{api.OK, api.ErrGoalRename, api.ErrGoalTwice, api.ErrGoalUnknown, api.ErrGoalSize, api.ErrGoalPartial, api.ErrGoalKind, api.ErrGoalChildren, api.ErrCatalogFull} {
		if met[e] < 10 {
			t.Errorf("%d was met %d times; all: %v", e, met[e], met)
		}
	}
}
