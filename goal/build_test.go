package goal_test

import (
	"fmt"
	"slices"
	"strconv"
	"strings"
	"testing"

	"cistern/api"
	"cistern/goal"
)

// ranges gives ranges of their ends: 0, 4, 5, 6 is 0 to 4 and 5 to 6.
func ranges(ends ...int) []api.Range {
	var out []api.Range
	for i := 0; i < len(ends); i += 2 {
		out = append(out, api.Range{From: ends[i], To: ends[i+1]})
	}
	return out
}

// example is the chapter's view: a, and a snapshot s of it.
func example() api.View {
	return api.View{Capacity: 100, Free: 80, Next: 3, Volumes: []api.Volume{
		{Name: "a", ID: 1, Size: 10, Mapped: ranges(0, 4)},
		{Name: "s", ID: 2, Size: 10, Origin: 1, Kind: api.KindSnap, Mapped: ranges(0, 3)},
	}}
}

const asExample = "100 80 3; a 1 10 0 0 0..4; s 2 10 1 1 0..3"

// crowd is a view with volumes of all sorts: a, with two snapshots whose names rise the other way than their IDs, m of 8 and l of
// 3; c, a clone of a; e, which maps nothing; f, which maps all; k, a clone of the snapshot l; p (Partial), with a snapshot t; q
// (Partial), which maps all; r, a snapshot of what is gone (Partial).
func crowd() api.View {
	return api.View{Capacity: 100, Free: 60, Next: 20, Volumes: []api.Volume{
		{Name: "a", ID: 1, Size: 40, Mapped: ranges(0, 4, 6, 7, 30, 40)},
		{Name: "c", ID: 4, Size: 50, Origin: 1, Mapped: ranges(0, 1, 45, 50)},
		{Name: "e", ID: 9, Size: 40},
		{Name: "f", ID: 10, Size: 5, Mapped: ranges(0, 5)},
		{Name: "k", ID: 12, Size: 20, Origin: 3, Mapped: ranges(0, 3)},
		{Name: "l", ID: 3, Size: 20, Origin: 1, Kind: api.KindSnap, Mapped: ranges(0, 3)},
		{Name: "m", ID: 8, Size: 30, Origin: 1, Kind: api.KindSnap, Mapped: ranges(1, 2)},
		{Name: "p", ID: 5, Size: 40, Partial: true, Mapped: ranges(0, 2)},
		{Name: "q", ID: 11, Size: 3, Partial: true, Mapped: ranges(0, 3)},
		{Name: "r", ID: 14, Size: 3, Origin: 13, Kind: api.KindSnap, Partial: true},
		{Name: "t", ID: 7, Size: 40, Origin: 5, Kind: api.KindSnap, Mapped: ranges(1, 2)},
	}}
}

// crowded gives a view with volumes more, of the names v00 and so on, until there are so many.
func crowded(v api.View, count int) api.View {
	for i := len(v.Volumes); i < count; i++ {
		v.Volumes = append(v.Volumes, api.Volume{Name: fmt.Sprintf("v%02d", i), ID: 100 + i, Size: 1})
	}
	v.Next = 1000
	byName(v.Volumes)
	return v
}

func byName(volumes []api.Volume) {
	slices.SortFunc(volumes, func(a api.Volume, b api.Volume) int { return strings.Compare(a.Name, b.Name) })
}

// next gives a view of which another ID is next.
func next(v api.View, id int) api.View {
	v.Next = id
	return v
}

// copied gives a view that shares nothing with another.
func copied(v api.View) api.View {
	v.Volumes = slices.Clone(v.Volumes)
	for i, x := range v.Volumes {
		v.Volumes[i].Mapped = slices.Clone(x.Mapped)
	}
	return v
}

// told tells a view: capacity, free, next; of each volume its name, ID, size, origin, kind, ranges, and half, if it is Partial.
func told(v api.View) string {
	parts := []string{fmt.Sprint(v.Capacity, v.Free, v.Next)}
	for _, x := range v.Volumes {
		text := fmt.Sprintf("%s %d %d %d %d", x.Name, x.ID, x.Size, x.Origin, x.Kind)
		for _, r := range x.Mapped {
			text += fmt.Sprintf(" %d..%d", r.From, r.To)
		}
		if x.Partial {
			text += " half"
		}
		parts = append(parts, text)
	}
	return strings.Join(parts, "; ")
}

const zero = "0 0 0"

// plan gives the clauses of a text such as "volume b from a size 20 thick; keep 1 of a", each with the place of its first byte.
func plan(t *testing.T, text string) []api.Clause {
	t.Helper()
	var cs []api.Clause
	at := 0
	for _, part := range strings.Split(text, ";") {
		if strings.TrimSpace(part) != "" {
			c := clause(t, part)
			c.At = at + len(part) - len(strings.TrimLeft(part, " "))
			cs = append(cs, c)
		}
		at += len(part) + 1
	}
	return cs
}

// clauseKinds are the kinds of clauses by their first words.
func clauseKinds() map[string]int {
	return map[string]int{"volume": 1, "snapshot": 2, "keep": 3, "absent": 4, "rename": 5, "exact": 6}
}

func clause(t *testing.T, text string) api.Clause {
	t.Helper()
	words := strings.Fields(text)
	kind := clauseKinds()[words[0]]
	if kind == 0 {
		t.Fatalf("%q is no clause", text)
	}
	c := api.Clause{Kind: kind}
	for i, word := range words {
		behind := ""
		if i+1 < len(words) {
			behind = words[i+1]
		}
		switch word {
		case "volume", "absent", "rename":
			c.Name = behind
		case "from", "of", "to":
			c.Other = behind
		case "size", "keep":
			c.Number = number(t, behind)
		case "thick":
			c.Thick = true
		}
	}
	return c
}

func number(t *testing.T, word string) int {
	t.Helper()
	n, err := strconv.Atoi(word)
	if err != nil {
		t.Fatalf("%q is no number", word)
	}
	return n
}

// toldPlan tells clauses.
func toldPlan(cs []api.Clause) string {
	text := ""
	for _, c := range cs {
		text += fmt.Sprintf("%d %q %q %d %v @%d; ", c.Kind, c.Name, c.Other, c.Number, c.Thick, c.At)
	}
	return text
}

// checkGoal holds what a plan denotes over a view, told.
func checkGoal(t *testing.T, v api.View, text string, want string) {
	t.Helper()
	if got, at, e := goal.Goal(plan(t, text), v); told(got) != want || at != 0 || e != api.OK {
		t.Errorf("Goal(%s) over %s\n= %s, %d, %d;\nwant %s", text, told(v), told(got), at, e, want)
	}
	checkAsModel(t, plan(t, text), v)
}

// checkSaid holds of a plan's goal what is told of some of its volumes alone.
func checkSaid(t *testing.T, v api.View, text string, want ...string) {
	t.Helper()
	got, at, e := goal.Goal(plan(t, text), v)
	if at != 0 || e != api.OK {
		t.Errorf("Goal(%s) over %s = %d, %d", text, told(v), at, e)
	}
	parts := strings.Split(told(got), "; ")
	for _, part := range want {
		if name, isGone := strings.CutPrefix(part, "no "); isGone {
			has := func(told string) bool { return strings.HasPrefix(told, name+" ") }
			if slices.ContainsFunc(parts[1:], has) {
				t.Errorf("Goal(%s)\n= %s;\nwant no %s", text, told(got), name)
			}
		} else if !slices.Contains(parts, part) {
			t.Errorf("Goal(%s)\n= %s;\nwant in it %s", text, told(got), part)
		}
	}
	checkAsModel(t, plan(t, text), v)
}

// marked gives a text without the ^ in it, and the place where that stood.
func marked(t *testing.T, text string) (string, int) {
	t.Helper()
	ahead, behind, ok := strings.Cut(text, "^")
	if !ok {
		t.Fatalf("%q marks nothing", text)
	}
	return ahead + behind, len(ahead)
}

// checkRefused holds that a plan is refused, at the clause that a ^ in its text marks, with nothing beside the error.
func checkRefused(t *testing.T, v api.View, text string, want api.Errno) {
	t.Helper()
	text, place := marked(t, text)
	if got, at, e := goal.Goal(plan(t, text), v); told(got) != zero || at != place || e != want {
		t.Errorf("Goal(%s) over %s\n= %s, %d, %d;\nwant %s, %d, %d", text, told(v), told(got), at, e, zero, place, want)
	}
	checkAsModel(t, plan(t, text), v)
}

// checkFresh holds the names of the snapshots that a plan takes.
func checkFresh(t *testing.T, v api.View, text string, want ...string) {
	t.Helper()
	if got, at, e := goal.Fresh(plan(t, text), v); !slices.Equal(got, want) || at != 0 || e != api.OK {
		t.Errorf("Fresh(%s) over %s = %q, %d, %d; want %q", text, told(v), got, at, e, want)
	}
	checkAsModel(t, plan(t, text), v)
}

// checkNoFresh holds that Fresh and Goal refuse a plan alike.
func checkNoFresh(t *testing.T, v api.View, text string, want api.Errno) {
	t.Helper()
	checkRefused(t, v, text, want)
	text, place := marked(t, text)
	if got, at, e := goal.Fresh(plan(t, text), v); len(got) != 0 || at != place || e != want {
		t.Errorf("Fresh(%s) over %s = %q, %d, %d; want none, %d, %d", text, told(v), got, at, e, place, want)
	}
}

// drawing draws what looks like chance and is the same in each run.
type drawing struct{ seed uint32 }

// below draws from 0 up to and without most.
func (d *drawing) below(most int) int {
	d.seed = d.seed*1664525 + 1013904223
	high := uint64(d.seed >> 8)
	d.seed = d.seed*1664525 + 1013904223
	return int((high<<24 | uint64(d.seed>>8)) % uint64(most))
}

// text draws one of some texts.
func (d *drawing) text(of ...string) string { return of[d.below(len(of))] }

// number draws one of some numbers.
func (d *drawing) number(of ...int) int { return of[d.below(len(of))] }
