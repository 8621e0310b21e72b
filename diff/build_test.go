package diff_test

import (
	"fmt"
	"slices"
	"strconv"
	"strings"
	"testing"

	"cistern/api"
	"cistern/diff"
	"cistern/goal"
	"cistern/op"
)

// ranges gives ranges of their ends: 0, 4, 5, 6 is 0 to 4 and 5 to 6.
func ranges(ends ...int) []api.Range {
	var out []api.Range
	for i := 0; i < len(ends); i += 2 {
		out = append(out, api.Range{From: ends[i], To: ends[i+1]})
	}
	return out
}

// example is the chapter's view: a, and a snapshot s of it.
func example() api.View {
	return api.View{Capacity: 100, Free: 80, Next: 3, Volumes: []api.Volume{
		{Name: "a", ID: 1, Size: 10, Mapped: ranges(0, 4)},
		{Name: "s", ID: 2, Size: 10, Origin: 1, Kind: api.KindSnap, Mapped: ranges(0, 3)},
	}}
}

// crowd is a view of which the names rise the other way than the IDs: z, with two snapshots y and x; w, a clone of z; u, which maps
// nothing; t, which maps all; q, a clone of the snapshot y; p (Partial), which maps all; o (Partial).
func crowd() api.View {
	return api.View{Capacity: 1000, Free: 60, Next: 20, Volumes: []api.Volume{
		{Name: "o", ID: 14, Size: 3, Partial: true},
		{Name: "p", ID: 12, Size: 40, Partial: true, Mapped: ranges(0, 40)},
		{Name: "q", ID: 11, Size: 20, Origin: 3, Mapped: ranges(0, 3)},
		{Name: "t", ID: 10, Size: 70, Mapped: ranges(0, 70)},
		{Name: "u", ID: 9, Size: 100},
		{Name: "w", ID: 6, Size: 50, Origin: 1, Mapped: ranges(0, 1, 45, 50)},
		{Name: "x", ID: 4, Size: 30, Origin: 1, Kind: api.KindSnap, Mapped: ranges(1, 2)},
		{Name: "y", ID: 3, Size: 40, Origin: 1, Kind: api.KindSnap, Mapped: ranges(0, 40)},
		{Name: "z", ID: 1, Size: 80, Mapped: ranges(0, 4, 6, 7, 30, 80)},
	}}
}

// crowded gives a view with volumes more, of the names v00 and so on, until there are so many.
func crowded(v api.View, count int) api.View {
	for i := len(v.Volumes); i < count; i++ {
		v.Volumes = append(v.Volumes, api.Volume{Name: fmt.Sprintf("v%02d", i), ID: 100 + i, Size: 1})
	}
	v.Next = 1000
	byName(v.Volumes)
	return v
}

func byName(volumes []api.Volume) {
	slices.SortFunc(volumes, func(a api.Volume, b api.Volume) int { return strings.Compare(a.Name, b.Name) })
}

// copied gives a view that shares nothing with another.
func copied(v api.View) api.View {
	v.Volumes = slices.Clone(v.Volumes)
	for i, x := range v.Volumes {
		v.Volumes[i].Mapped = slices.Clone(x.Mapped)
	}
	return v
}

// told tells a view: capacity, free, next; of each volume its name, ID, size, origin, kind, ranges, and half, if it is Partial.
func told(v api.View) string {
	parts := []string{fmt.Sprint(v.Capacity, v.Free, v.Next)}
	for _, x := range v.Volumes {
		text := fmt.Sprintf("%s %d %d %d %d", x.Name, x.ID, x.Size, x.Origin, x.Kind)
		for _, r := range x.Mapped {
			text += fmt.Sprintf(" %d..%d", r.From, r.To)
		}
		if x.Partial {
			text += " half"
		}
		parts = append(parts, text)
	}
	return strings.Join(parts, "; ")
}

// toldSteps tells operations as layer 16 prints them, in one line: which refuses those with a field that their kind does not use.
func toldSteps(t *testing.T, ops []api.Op) string {
	t.Helper()
	text, e := op.Print(ops)
	if e != api.OK {
		t.Errorf("Print(%v) = %d", ops, e)
	}
	return strings.TrimSuffix(strings.ReplaceAll(string(text), "\n", "; "), "; ")
}

// plan gives the clauses of a text such as "volume b from a size 20 thick; keep 1 of a", each with the place of its first byte.
func plan(t *testing.T, text string) []api.Clause {
	t.Helper()
	var cs []api.Clause
	at := 0
	for _, part := range strings.Split(text, ";") {
		if strings.TrimSpace(part) != "" {
			c := clause(t, part)
			c.At = at + len(part) - len(strings.TrimLeft(part, " "))
			cs = append(cs, c)
		}
		at += len(part) + 1
	}
	return cs
}

// clauseKinds are the kinds of clauses by their first words.
func clauseKinds() map[string]int {
	return map[string]int{"volume": 1, "snapshot": 2, "keep": 3, "absent": 4, "rename": 5, "exact": 6}
}

func clause(t *testing.T, text string) api.Clause {
	t.Helper()
	words := strings.Fields(text)
	kind := clauseKinds()[words[0]]
	if kind == 0 {
		t.Fatalf("%q is no clause", text)
	}
	c := api.Clause{Kind: kind}
	for i, word := range words {
		behind := ""
		if i+1 < len(words) {
			behind = words[i+1]
		}
		switch word {
		case "volume", "absent", "rename":
			c.Name = behind
		case "from", "of", "to":
			c.Other = behind
		case "size", "keep":
			c.Number = number(t, behind)
		case "thick":
			c.Thick = true
		}
	}
	return c
}

func number(t *testing.T, word string) int {
	t.Helper()
	n, err := strconv.Atoi(word)
	if err != nil {
		t.Fatalf("%q is no number", word)
	}
	return n
}

// toldPlan tells clauses.
func toldPlan(cs []api.Clause) string {
	text := ""
	for _, c := range cs {
		text += fmt.Sprintf("%d %q %q %d %v @%d; ", c.Kind, c.Name, c.Other, c.Number, c.Thick, c.At)
	}
	return text
}

// goalOf gives what a plan denotes, which it must, with another Free: this is no part of a goal.
func goalOf(t *testing.T, cs []api.Clause, v api.View) api.View {
	t.Helper()
	g, at, e := goal.Goal(cs, v)
	if e != api.OK {
		t.Fatalf("Goal(%s) over %s = %d, %d", toldPlan(cs), told(v), at, e)
	}
	g.Free = v.Capacity - v.Free
	return g
}

// checkSteps holds the steps of a plan over a view, told, and that they come to the goal.
func checkSteps(t *testing.T, v api.View, text string, want string) {
	t.Helper()
	cs := plan(t, text)
	g := goalOf(t, cs, v)
	ops, e := diff.Steps(cs, v, g)
	if got := toldSteps(t, ops); got != want || e != api.OK {
		t.Errorf("Steps(%s) over %s\n= %s, %d;\nwant %s", text, told(v), got, e, want)
	}
	if isEmpty, e := diff.Empty(cs, v, g); isEmpty != (want == "") || e != api.OK {
		t.Errorf("Empty(%s) over %s = %v, %d", text, told(v), isEmpty, e)
	}
	checkAsModel(t, cs, v)
	checkDone(t, cs, v)
}

// checkOf holds of a plan's steps those of some kinds alone.
func checkOf(t *testing.T, v api.View, text string, want string, kinds ...int) {
	t.Helper()
	cs := plan(t, text)
	ops, e := diff.Steps(cs, v, goalOf(t, cs, v))
	ops = slices.DeleteFunc(ops, func(o api.Op) bool { return !slices.Contains(kinds, o.Kind) })
	if got := toldSteps(t, ops); got != want || e != api.OK {
		t.Errorf("Steps(%s) over %s\n= %s, %d;\nwant %s", text, told(v), got, e, want)
	}
	checkAsModel(t, cs, v)
	checkDone(t, cs, v)
}

// checkRefused holds that both calls refuse a goal, with nothing beside the error.
func checkRefused(t *testing.T, cs []api.Clause, v api.View, g api.View) {
	t.Helper()
	if ops, e := diff.Steps(cs, v, g); len(ops) != 0 || e != api.ErrDiffGoal {
		t.Errorf("Steps(%s) over %s\nwith the goal %s\n= %v, %d", toldPlan(cs), told(v), told(g), ops, e)
	}
	if isEmpty, e := diff.Empty(cs, v, g); isEmpty || e != api.ErrDiffGoal {
		t.Errorf("Empty(%s) over %s\nwith the goal %s\n= %v, %d", toldPlan(cs), told(v), told(g), isEmpty, e)
	}
}

// drawing draws what looks like chance and is the same in each run.
type drawing struct{ seed uint32 }

// below draws from 0 up to and without most.
func (d *drawing) below(most int) int {
	d.seed = d.seed*1664525 + 1013904223
	high := uint64(d.seed >> 8)
	d.seed = d.seed*1664525 + 1013904223
	return int((high<<24 | uint64(d.seed>>8)) % uint64(most))
}

// text draws one of some texts.
func (d *drawing) text(of ...string) string { return of[d.below(len(of))] }

// number draws one of some numbers.
func (d *drawing) number(of ...int) int { return of[d.below(len(of))] }
