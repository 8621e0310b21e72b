package diff_test

import (
	"fmt"
	"math"
	"slices"
	"strings"
	"sync"
	"testing"

	"cistern/api"
	"cistern/diff"
	"cistern/goal"
)

// laid gives a view whose lists of ranges lie one behind the other in one array, each with all that is behind it as spare room;
// its list of volumes has spare room too. The array is handed out, to be looked at.
func laid(v api.View) (api.View, []api.Range) {
	var all []api.Range
	for _, x := range v.Volumes {
		all = append(all, x.Mapped...)
	}
	for i := range 20 {
		all = append(all, api.Range{From: 1000 + i, To: 2000 + i})
	}
	all = slices.Clip(all)
	at := 0
	volumes := make([]api.Volume, len(v.Volumes), len(v.Volumes)+5)
	for i, x := range v.Volumes {
		n := len(x.Mapped)
		x.Mapped = all[at : at+n]
		at += n
		volumes[i] = x
	}
	for i := range 5 {
		volumes[:cap(volumes)][len(volumes)+i] = api.Volume{Name: "spare", ID: 77, Mapped: all[at:]}
	}
	v.Volumes = volumes
	return v, all
}

// spared gives clauses with spare room behind them.
func spared(cs []api.Clause) []api.Clause {
	out := append(make([]api.Clause, 0, len(cs)+3), cs...)
	for i := range 3 {
		out[:cap(out)][len(cs)+i] = api.Clause{Kind: api.ClauseAbsent, Name: "spare"}
	}
	return out
}

// handed is what a call is handed, with all the room behind it.
type handed struct {
	cs         []api.Clause
	v, g       api.View
	inV, inG   []api.Range
	copyV      []api.Range
	copyG      []api.Range
	told       string
	toldSpares string
}

func handedOf(cs []api.Clause, v api.View, g api.View) *handed {
	h := &handed{cs: spared(cs)}
	h.v, h.inV = laid(v)
	h.g, h.inG = laid(g)
	h.copyV, h.copyG = slices.Clone(h.inV), slices.Clone(h.inG)
	h.told = h.tell()
	return h
}

// tell tells all of it, the spare room too.
func (h *handed) tell() string {
	v, g := h.v, h.g
	v.Volumes, g.Volumes = v.Volumes[:cap(v.Volumes)], g.Volumes[:cap(g.Volumes)]
	return told(v) + " / " + told(g) + " / " + toldPlan(h.cs[:cap(h.cs)])
}

// check holds that it stays as it was.
func (h *handed) check(t *testing.T) {
	t.Helper()
	if h.tell() != h.told || !slices.Equal(h.inV, h.copyV) || !slices.Equal(h.inG, h.copyG) {
		t.Errorf("R4: %s\nhas become %s", h.told, h.tell())
	}
}

// spoil writes over all of it.
func (h *handed) spoil() {
	for _, v := range []api.View{h.v, h.g} {
		for i := range v.Volumes {
			v.Volumes[i] = api.Volume{Name: "spoilt", ID: -1}
		}
	}
	for i := range h.cs {
		h.cs[i] = api.Clause{Kind: 99, Name: "spoilt"}
	}
	for _, list := range [][]api.Range{h.inV, h.inG} {
		for i := range list {
			list[i] = api.Range{From: 7, To: 77}
		}
	}
}

// plans are texts that denote a view over the crowd.
func plans() []string {
	return []string{
		"", "volume z size 2", "volume z size 200 thick", "volume b from z size 20; volume z size 1", "volume b from z size 3; volume c from b size 2 thick; volume u size 9 thick",
		"snapshot of z; snapshot of z; snapshot of u", "rename z to u; rename u to z", "rename z to a; rename x to b; volume a size 3", "keep 0 of z; absent q",
		"snapshot of z; keep 2 of z; absent q", "absent x; volume n size 5; exact; keep 2 of z; absent q; absent y", "volume n size 65 thick; volume m from n size 3",
		"snapshot of z; volume n from z@20 size 30; volume z size 3; volume m from z size 7 thick",
	}
}

func TestR4WhatIsHandedInStays(t *testing.T) {
	for _, text := range plans() {
		for _, v := range []api.View{crowd(), crowded(crowd(), 50)} {
			cs := plan(t, strings.ReplaceAll(text, "z@20", fmt.Sprintf("z@%d", v.Next)))
			for _, g := range []api.View{goalOf(t, cs, v), v} {
				h := handedOf(cs, v, g)
				diff.Steps(h.cs, h.v, h.g)
				h.check(t)
				diff.Empty(h.cs, h.v, h.g)
				h.check(t)
			}
		}
	}
}

// What is handed out is new: who writes over it changes neither what was handed in nor what is answered later; and nothing of it
// is what was handed in.
func TestR4WhatIsHandedOutIsNew(t *testing.T) {
	for _, text := range plans() {
		cs := plan(t, text)
		h := handedOf(cs, crowd(), goalOf(t, cs, crowd()))
		first, _ := diff.Steps(h.cs, h.v, h.g)
		second, _ := diff.Steps(h.cs, h.v, h.g)
		want := toldSteps(t, first)
		for i := range first[:cap(first)] {
			first[:cap(first)][i] = api.Op{Kind: 99, Name: "spoilt", Data: []byte{1}}
		}
		third, e := diff.Steps(h.cs, h.v, h.g)
		h.check(t)
		h.spoil()
		if toldSteps(t, second) != want || toldSteps(t, third) != want || e != api.OK {
			t.Errorf("%s: %s has become %s, and is answered as %s, %d", text, want, toldSteps(t, second), toldSteps(t, third), e)
		}
	}
}

// Nil and empty lists are one.
func TestR1NoneAndEmpty(t *testing.T) {
	for _, volumes := range [][]api.Volume{nil, {}, make([]api.Volume, 0, 5)} {
		for _, others := range [][]api.Volume{nil, {}, make([]api.Volume, 0, 5)} {
			v, g := api.View{Capacity: 9, Free: 4, Next: 7, Volumes: volumes}, api.View{Capacity: 9, Next: 7, Volumes: others}
			for _, cs := range [][]api.Clause{nil, {}, make([]api.Clause, 0, 5)} {
				ops, e := diff.Steps(cs, v, g)
				isEmpty, err := diff.Empty(cs, v, g)
				if len(ops) > 0 || e != api.OK || !isEmpty || err != api.OK {
					t.Errorf("Steps = %v, %d; Empty = %v, %d", ops, e, isEmpty, err)
				}
			}
			checkSteps(t, v, "volume a size 3; absent b; exact", "create a 3")
		}
	}
	for _, mapped := range [][]api.Range{nil, {}, make([]api.Range, 0, 5)} {
		for _, others := range [][]api.Range{nil, {}, make([]api.Range, 0, 5)} {
			v := api.View{Capacity: 9, Free: 4, Next: 7, Volumes: []api.Volume{{Name: "a", ID: 5, Size: 3, Mapped: mapped}}}
			g := api.View{Capacity: 9, Next: 7, Volumes: []api.Volume{{Name: "a", ID: 5, Size: 2, Mapped: others}}}
			if ops, e := diff.Steps(plan(t, "volume a size 2"), v, g); toldSteps(t, ops) != "resize a 2" || e != api.OK {
				t.Errorf("Steps = %v, %d", ops, e)
			}
			checkSteps(t, v, "volume a size 2 thick; volume b from a size 3; snapshot of a", "snap a@7 of a; clone b of a; resize a 2; fill a 0 2")
		}
	}
}

// Asked twice, and many times at once, the answers are the same.
func TestR5AskedAgain(t *testing.T) {
	d := &drawing{seed: 5}
	type asked struct {
		cs   []api.Clause
		v, g api.View
		want string
	}
	answer := func(cs []api.Clause, v api.View, g api.View) string {
		ops, e := diff.Steps(cs, v, g)
		isEmpty, err := diff.Empty(cs, v, g)
		return fmt.Sprint(ops, e, isEmpty, err)
	}
	var all []asked
	for range 2000 {
		cs, v := d.denoting()
		g := goalOf(t, cs, v)
		all = append(all, asked{cs, v, g, answer(cs, v, g)})
	}
	wrong := make([]string, 4)
	wait := sync.WaitGroup{}
	for i := range wrong {
		wait.Go(func() {
			for _, a := range slices.Backward(all) {
				if got := answer(a.cs, a.v, a.g); got != a.want {
					wrong[i] = got + "; it was " + a.want
				}
			}
		})
	}
	wait.Wait()
	for _, text := range wrong {
		if text != "" {
			t.Errorf("asked again: %s", text)
		}
	}
}

// Where a clause stands in the text turns nothing.
func TestP23_1WherePlacesLie(t *testing.T) {
	for _, text := range plans() {
		cs := plan(t, text)
		g := goalOf(t, cs, crowd())
		want, _ := diff.Steps(cs, crowd(), g)
		for _, at := range []int{0, -1, 7, math.MaxInt, math.MinInt} {
			for i := range cs {
				cs[i].At = at
			}
			if ops, e := diff.Steps(cs, crowd(), g); toldSteps(t, ops) != toldSteps(t, want) || e != api.OK {
				t.Errorf("Steps(%s) = %v, %d; want %v", toldPlan(cs), ops, e, want)
			}
		}
	}
}

// wildNumber draws a number that mostly may not be.
func (d *drawing) wildNumber() int {
	return d.number(0, 0, 1, 1, 2, 3, 5, 7, 10, 20, -1, -7, 64, 262144, 262145, 1<<30, 1<<30+1, 1<<40, math.MaxInt, math.MaxInt-1, math.MinInt, math.MinInt+1)
}

// wildName draws a name of few, of which some may not be.
func (d *drawing) wildName() string {
	return d.text("", "a", "b", "c", "a", "b", "c", "A", "-", "a b", "\x00", "é", "a@1", "b@7", strings.Repeat("a", 31), strings.Repeat("b", 400))
}

// wild draws a view that may not be: of any numbers, in any order, ranges of all kinds.
func (d *drawing) wild() api.View {
	v := api.View{Capacity: d.wildNumber(), Free: d.wildNumber(), Next: d.wildNumber()}
	for range d.number(0, 1, 2, 3, 4, 5, 5, 20, 63, 64, 65) {
		x := api.Volume{Name: d.wildName(), ID: d.wildNumber(), Size: d.wildNumber(), Origin: d.wildNumber(), Kind: d.number(0, 0, 1, 1, 2, -1), Partial: d.below(8) == 0}
		for range d.below(7) {
			x.Mapped = append(x.Mapped, api.Range{From: d.wildNumber(), To: d.wildNumber()})
		}
		v.Volumes = append(v.Volumes, x)
	}
	return v
}

func (d *drawing) wildClause() api.Clause {
	return api.Clause{
		Kind: d.number(1, 1, 2, 3, 3, 4, 5, 6, 0, 7, -1, math.MaxInt), Name: d.wildName(), Other: d.wildName(), Number: d.wildNumber(), Thick: d.below(2) == 0, At: d.wildNumber(),
	}
}

// Over views and clauses that may not be, with goals that are theirs or others, the calls end and do not panic; what is handed in
// stays, what is handed out is new, and a refused call answers nothing but its error.
func TestP23_1WhatMayNotBe(t *testing.T) {
	d := &drawing{seed: 9}
	met := map[api.Errno]int{}
	for i := range 6000 {
		v := d.wild()
		if i%3 == 0 {
			v = d.view()
		}
		var cs []api.Clause
		for range d.below(6) {
			cs = append(cs, d.wildClause())
		}
		g, _, e := goal.Goal(cs, v)
		if i%10 == 0 {
			g = d.wild()
		} else if e != api.OK && len(cs) > 0 {
			cs = cs[:1]
			g, _, _ = goal.Goal(cs, v)
		}
		h := handedOf(cs, v, g)
		ops, e := diff.Steps(h.cs, h.v, h.g)
		isEmpty, err := diff.Empty(h.cs, h.v, h.g)
		met[e]++
		if err != e || e != api.OK && (len(ops) > 0 || isEmpty) || e == api.OK && isEmpty != (len(ops) == 0) {
			t.Fatalf("%s: %d steps, %d; %v, %d", h.told, len(ops), e, isEmpty, err)
		}
		if e != api.OK && e != api.ErrDiffGoal {
			t.Fatalf("%s: %d", h.told, e)
		}
		for k := range ops[:cap(ops)] {
			ops[:cap(ops)][k] = api.Op{Name: "spoilt"}
		}
		h.check(t)
	}
	if met[api.OK] < 1000 || met[api.ErrDiffGoal] < 1000 {
		t.Errorf("met: %v", met)
	}
}

// Volumes that have one number, or a size without bound: what is filled has a bound all the same.
func TestP23_1TwoOfOneNumber(t *testing.T) {
	for _, size := range []int{math.MaxInt, 1 << 40, 0, -1, math.MinInt} {
		v := api.View{Capacity: 9, Next: 5, Volumes: []api.Volume{{Name: "a", ID: 1, Size: 10}, {Name: "b", ID: 1, Size: size}, {Name: "c", ID: 2, Size: size, Origin: 2}}}
		for _, volumes := range [][]api.Volume{v.Volumes, {v.Volumes[1], v.Volumes[0], v.Volumes[2]}} {
			v.Volumes = volumes
			cs := plan(t, "volume a size 10 thick; volume d from c size 262144 thick; volume e from b size 33 thick")
			g, _, _ := goal.Goal(cs, v)
			if ops, e := diff.Steps(cs, v, g); e != api.OK || len(ops) > 20000 {
				t.Errorf("%d steps, %d", len(ops), e)
			}
		}
	}
}
