package goal_test

import (
	"fmt"
	"slices"
	"strings"
	"testing"

	"cistern/api"
	"cistern/goal"
)

// model follows the chapter's steps word by word over volumes with sets of blocks, and looks through all lists each time.
type model struct {
	api.View
	cs      []api.Clause
	volumes []*volume
	names   []string               // of the fresh snapshots
	made    []int                  // the clauses of the volumes that were made, in the order of making
	goes    map[int]map[string]int // of each clause, by its number, the volumes that go by it
}

type volume struct {
	api.Volume
	has map[int]bool
}

// refusal is the condition that failed: thrown, and caught where the model is asked.
type refusal struct {
	at int
	e  api.Errno
}

func modelOf(cs []api.Clause, v api.View) *model {
	m := &model{View: v, cs: cs, goes: map[int]map[string]int{}}
	for _, x := range v.Volumes {
		has := map[int]bool{}
		for _, r := range x.Mapped {
			for l := r.From; l < r.To; l++ {
				has[l] = true
			}
		}
		m.volumes = append(m.volumes, &volume{x, has})
	}
	return m
}

func (m *model) there(name string) *volume {
	for _, x := range m.volumes {
		if x.Name == name {
			return x
		}
	}
	return nil
}

// has tells whether there is a clause of a kind, of those up to and without a number, of which something holds.
func (m *model) has(kind int, to int, holds func(c api.Clause) bool) bool {
	for _, c := range m.cs[:to] {
		if c.Kind == kind && holds(c) {
			return true
		}
	}
	return false
}

// refuse throws an error with a clause's place, if it holds.
func refuse(c api.Clause, e api.Errno, holds bool) {
	if holds {
		panic(refusal{c.At, e})
	}
}

func (m *model) each(kind int, do func(i int, c api.Clause)) {
	for i, c := range m.cs {
		if c.Kind == kind {
			do(i, c)
		}
	}
}

func (m *model) renames() {
	m.each(5, func(i int, c api.Clause) {
		refuse(c, api.ErrGoalTwice, m.has(5, i, func(o api.Clause) bool { return o.Name == c.Name || o.Other == c.Other }))
	})
	to := map[*volume]string{}
	moves := func(name string) bool {
		return m.has(5, len(m.cs), func(o api.Clause) bool { return o.Name == name && o.Other != name })
	}
	m.each(5, func(i int, c api.Clause) {
		a, b := m.there(c.Name), m.there(c.Other)
		switch {
		case c.Name == c.Other:
			refuse(c, api.ErrGoalRename, a == nil)
		case a != nil:
			refuse(c, api.ErrGoalPartial, a.Partial)
			refuse(c, api.ErrGoalRename, b != nil && !moves(c.Other))
			to[a] = c.Other
		default:
			refuse(c, api.ErrGoalRename, b == nil || moves(c.Other))
		}
	})
	for x, name := range to {
		x.Name = name
	}
}

func (m *model) add(x api.Volume, has map[int]bool) {
	x.ID = m.Next
	m.Next++
	mine := map[int]bool{}
	for l := range has {
		mine[l] = true
	}
	m.volumes = append(m.volumes, &volume{x, mine})
}

func (m *model) snapshots() {
	m.each(2, func(i int, c api.Clause) {
		source := m.there(c.Other)
		refuse(c, api.ErrGoalUnknown, source == nil)
		refuse(c, api.ErrGoalPartial, source.Partial)
		refuse(c, api.ErrCatalogFull, len(m.volumes) == 64)
		refuse(c, api.ErrCatalogIDs, m.Next > 1<<30)
		name := fmt.Sprintf("%s@%d", source.Name, m.Next)
		refuse(c, api.ErrGoalName, len(name) > 31 || m.there(name) != nil)
		m.names = append(m.names, name)
		m.add(api.Volume{Name: name, Kind: 1, Size: source.Size, Origin: source.ID}, source.has)
	})
}

func (m *model) wants(name string) bool {
	return m.has(1, len(m.cs), func(o api.Clause) bool { return o.Name == name })
}

func (m *model) asks() {
	m.each(1, func(i int, c api.Clause) {
		refuse(c, api.ErrGoalTwice, m.has(1, i, func(o api.Clause) bool { return o.Name == c.Name }))
		refuse(c, api.ErrGoalSize, c.Number < 1 || c.Number > 262144)
		x, source := m.there(c.Name), m.there(c.Other)
		isUnknown := c.Other != "" && source == nil && !m.wants(c.Other)
		if x == nil {
			refuse(c, api.ErrGoalUnknown, isUnknown)
			refuse(c, api.ErrGoalPartial, source != nil && source.Partial)
			return
		}
		refuse(c, api.ErrGoalKind, x.Kind == 1)
		refuse(c, api.ErrGoalUnknown, isUnknown)
		refuse(c, api.ErrGoalOrigin, c.Other != "" && (source == nil || source.ID != x.Origin))
		if x.Partial {
			refuse(c, api.ErrGoalPartial, x.Size != c.Number || c.Thick && len(x.has) != x.Size)
		}
	})
}

func (m *model) makes() {
	for again := true; again; {
		again = false
		for i, c := range m.cs {
			if c.Kind != 1 || m.there(c.Name) != nil || c.Other != "" && m.there(c.Other) == nil {
				continue
			}
			refuse(c, api.ErrCatalogIDs, m.Next > 1<<30)
			if source := m.there(c.Other); source != nil {
				m.add(api.Volume{Name: c.Name, Size: source.Size, Origin: source.ID}, source.has)
			} else {
				m.add(api.Volume{Name: c.Name, Size: c.Number}, nil)
			}
			m.made = append(m.made, i)
			again = true
			break
		}
	}
	m.each(1, func(i int, c api.Clause) { refuse(c, api.ErrGoalCircle, m.there(c.Name) == nil) })
	m.each(1, func(i int, c api.Clause) {
		x := m.there(c.Name)
		x.Size = c.Number
		for l := range x.has {
			if l >= x.Size {
				delete(x.has, l)
			}
		}
		for l := 0; c.Thick && l < x.Size; l++ {
			x.has[l] = true
		}
	})
}

func (m *model) leave(i int, x *volume) {
	if m.goes[i] == nil {
		m.goes[i] = map[string]int{}
	}
	m.goes[i][x.Name] = 1
}

func (m *model) keeps() {
	m.each(3, func(i int, c api.Clause) {
		refuse(c, api.ErrGoalTwice, m.has(3, i, func(o api.Clause) bool { return o.Other == c.Other }))
		source := m.there(c.Other)
		if source == nil {
			refuse(c, api.ErrGoalUnknown, !m.has(4, len(m.cs), func(o api.Clause) bool { return o.Name == c.Other }))
			return
		}
		for _, x := range m.volumes {
			greater := 0
			for _, y := range m.volumes {
				if y.Kind == 1 && y.Origin == source.ID && y.ID > x.ID {
					greater++
				}
			}
			if x.Kind == 1 && x.Origin == source.ID && greater >= c.Number {
				m.leave(i, x)
			}
		}
	})
}

func (m *model) absents() {
	other := func(name string) func(c api.Clause) bool {
		return func(c api.Clause) bool { return c.Other == name }
	}
	for i, c := range m.cs {
		if c.Kind == 4 {
			refuse(c, api.ErrGoalTwice, m.wants(c.Name))
			if x := m.there(c.Name); x != nil {
				m.leave(i, x)
			}
		}
		for _, x := range m.volumes {
			isOther := m.has(1, len(m.cs), other(x.Name)) || m.has(2, len(m.cs), other(x.Name)) || m.has(3, len(m.cs), other(x.Name)) || m.has(5, len(m.cs), other(x.Name))
			if c.Kind == 6 && x.Kind == 0 && !m.wants(x.Name) && !isOther {
				m.leave(i, x)
			}
		}
	}
}

func (m *model) isGoing(x *volume) bool {
	for _, names := range m.goes {
		if names[x.Name] != 0 {
			return true
		}
	}
	return false
}

func (m *model) children() {
	for i, c := range m.cs {
		for name := range m.goes[i] {
			for _, y := range m.volumes {
				refuse(c, api.ErrGoalChildren, y.Origin == m.there(name).ID && !m.isGoing(y))
			}
		}
	}
}

// room takes out what goes, and counts the volumes behind each making.
func (m *model) room() {
	m.volumes = slices.DeleteFunc(m.volumes, m.isGoing)
	count := len(m.volumes) - len(m.made)
	for _, i := range m.made {
		count++
		refuse(m.cs[i], api.ErrCatalogFull, count > 64)
	}
}

// left gives the view as it stands, ranges block by block.
func (m *model) left() api.View {
	v := m.View
	v.Volumes = nil
	for _, x := range m.volumes {
		var blocks []int
		for l := range x.has {
			blocks = append(blocks, l)
		}
		slices.Sort(blocks)
		x.Mapped = nil
		for i, l := range blocks {
			if i == 0 || blocks[i-1] != l-1 {
				x.Mapped = append(x.Mapped, api.Range{From: l})
			}
			x.Mapped[len(x.Mapped)-1].To = l + 1
		}
		v.Volumes = append(v.Volumes, x.Volume)
	}
	byName(v.Volumes)
	return v
}

// do takes the model through steps, and gives the place and the error of the condition that fails.
func (m *model) do(steps ...func()) (at int, e api.Errno) {
	defer func() {
		switch r := recover().(type) {
		case nil:
		case refusal:
			at, e = r.at, r.e
		default:
			panic(r)
		}
	}()
	for _, step := range steps {
		step()
	}
	return 0, api.OK
}

// checkAsModel holds both calls against the model, and gives the number of the step that failed (0: none) and the error.
func checkAsModel(t *testing.T, cs []api.Clause, v api.View) (int, api.Errno) {
	t.Helper()
	before, clauses := told(v), toldPlan(cs)
	m := modelOf(cs, v)
	at, e := m.do(m.renames, m.snapshots)
	if e != api.OK {
		m.names = nil
	}
	names, gotAt, got := goal.Fresh(cs, v)
	if !slices.Equal(names, m.names) || gotAt != at || got != e {
		t.Errorf("Fresh(%s) over %s\n= %q, %d, %d;\nwant %q, %d, %d", clauses, before, names, gotAt, got, m.names, at, e)
	}
	m = modelOf(cs, v)
	failed := 0
	for i, step := range []func(){m.renames, m.snapshots, m.asks, m.makes, m.keeps, m.absents, m.children, m.room} {
		if at, e = m.do(step); e != api.OK {
			failed = i + 1
			break
		}
	}
	wanted := zero
	if e == api.OK {
		wanted = told(m.left())
	}
	view, gotAt, got := goal.Goal(cs, v)
	if told(view) != wanted || gotAt != at || got != e {
		t.Errorf("Goal(%s) over %s\n= %s, %d, %d;\nwant %s, %d, %d", clauses, before, told(view), gotAt, got, wanted, at, e)
	}
	if told(v) != before || toldPlan(cs) != clauses {
		t.Errorf("R4: the calls of %s over %s have made them %s, %s", clauses, before, toldPlan(cs), told(v))
	}
	return failed, e
}

// name draws a name: of a view's volume, or another.
func (d *drawing) name(v api.View) string {
	if n := len(v.Volumes); n > 0 && d.below(10) < 6 {
		return v.Volumes[d.below(n)].Name
	}
	switch d.below(12) {
	case 0:
		return fmt.Sprintf("%s@%d", d.text("a", "b", "c"), v.Next+d.below(2))
	case 1:
		return strings.Repeat("n", 26+d.below(6))
	}
	return d.text("a", "b", "c", "d", "s", "x", "y", "z")
}

// view draws a view that may be.
func (d *drawing) view() api.View {
	v := api.View{Capacity: 1 + d.below(100), Next: 1}
	v.Free = d.below(v.Capacity + 1)
	count := d.number(0, 1, 2, 3, 4, 5, 6, 8)
	if d.below(8) == 0 {
		count = 60 + d.below(5)
	}
	for range count {
		x := api.Volume{ID: v.Next, Size: 1 + d.below(12), Partial: d.below(12) == 0, Mapped: nil}
		v.Next += 1 + d.below(2)
		x.Name = d.name(api.View{Next: 3 + d.below(12)})
		if len(v.Volumes) > 6 {
			x.Name = fmt.Sprintf("%s%d", x.Name[:1], len(v.Volumes))
		}
		if n := len(v.Volumes); n > 0 && d.below(3) > 0 {
			x.Origin = v.Volumes[d.below(n)].ID - d.below(2)
			x.Kind = d.number(0, 1, 1)
		}
		for l := d.below(4); l < x.Size; l += 1 + d.below(4) {
			r := api.Range{From: l, To: min(x.Size, l+1+d.below(4))}
			x.Mapped = append(x.Mapped, r)
			l = r.To
		}
		if d.below(5) == 0 {
			x.Mapped = ranges(0, x.Size)
		}
		isOther := func(o api.Volume) bool { return o.Name == x.Name }
		if !slices.ContainsFunc(v.Volumes, isOther) {
			v.Volumes = append(v.Volumes, x)
		}
	}
	byName(v.Volumes)
	if d.below(8) == 0 {
		v.Next = 1<<30 - d.below(4) + 1
	}
	return v
}

// clause draws a clause that may be.
func (d *drawing) clause(v api.View) api.Clause {
	c := api.Clause{}
	c.Kind = d.number(1, 1, 1, 1, 2, 2, 3, 3, 4, 4, 4, 5, 5, 6)
	switch c.Kind {
	case 1:
		c.Name, c.Number, c.Thick = d.name(v), 1+d.below(14), d.below(3) == 0
		if d.below(2) == 0 {
			c.Other = d.name(v)
		}
		if d.below(30) == 0 {
			c.Number = d.number(0, 262145, 1<<40)
		}
		for _, x := range v.Volumes {
			if x.Name == c.Name && d.below(2) == 0 {
				c.Number = x.Size
			}
			for _, y := range v.Volumes {
				if x.Name == c.Name && x.Origin == y.ID && c.Other != "" && d.below(3) > 0 {
					c.Other = y.Name
				}
			}
		}
	case 2:
		c.Other = d.name(v)
	case 3:
		c.Other, c.Number = d.name(v), d.number(0, 0, 1, 1, 2, 3, 1<<40)
	case 4:
		c.Name = d.name(v)
	case 5:
		c.Name, c.Other = d.name(v), d.name(v)
	}
	return c
}

// plan draws clauses: of all kinds, or of some alone.
func (d *drawing) plan(v api.View) []api.Clause {
	var cs []api.Clause
	kinds := [][]int{{1, 2, 3, 4, 5, 6}, {5}, {2, 5}, {1, 2}, {1}, {2, 3, 4}, {1, 3, 4, 6}, {3, 4, 6}}[d.below(8)]
	for range d.below(9) {
		if c := d.clause(v); slices.Contains(kinds, c.Kind) {
			cs = append(cs, c)
		}
	}
	if d.below(3) == 0 && len(v.Volumes) > 0 {
		// A circle, or a chain of renames, of what is there: what is drawn alone seldom comes to one.
		first, last := d.below(len(v.Volumes)), 1+d.below(3)
		for i := range last {
			old, to := v.Volumes[(first+i)%len(v.Volumes)].Name, v.Volumes[(first+(i+1)%last)%len(v.Volumes)].Name
			cs = append(cs, api.Clause{Kind: 5, Name: old, Other: to})
		}
	}
	return d.mixed(cs)
}

// mixed brings clauses into another order, and gives each a place of its own.
func (d *drawing) mixed(cs []api.Clause) []api.Clause {
	for i := range cs {
		k := i + d.below(len(cs)-i)
		cs[i], cs[k] = cs[k], cs[i]
		cs[i].At = 100*d.below(100) + i
	}
	return cs
}

// Drawn plans over drawn views.
func TestP22_1AgainstTheModel(t *testing.T) {
	d := &drawing{seed: 22}
	met := map[string]int{}
	for range 60000 {
		v := d.view()
		step, e := checkAsModel(t, d.plan(v), v)
		met[fmt.Sprintf("step %d: %d", step, e)]++
		if t.Failed() {
			return
		}
	}
	checkMet(t, met, 20,
		"step 0: 0", "step 1: 220", "step 1: 221", "step 1: 227", "step 2: 222", "step 2: 227", "step 2: 83", "step 2: 85", "step 2: 226",
		"step 3: 221", "step 3: 229", "step 3: 225", "step 3: 222", "step 3: 223", "step 3: 227", "step 4: 85", "step 4: 224", "step 5: 221",
		"step 5: 222", "step 6: 221", "step 7: 228")
}

// checkMet holds that each of some answers was met often enough.
func checkMet(t *testing.T, met map[string]int, least int, wanted ...string) {
	t.Helper()
	for _, want := range wanted {
		if met[want] < least {
			t.Errorf("%s was met %d times; all: %v", want, met[want], met)
		}
	}
}

// Drawn plans over views with nearly as many volumes as may be, or just as many.
func TestP22_1AgainstTheModelWhereRoomIsLittle(t *testing.T) {
	d := &drawing{seed: 23}
	met := map[string]int{}
	for range 3000 {
		v := crowded(crowd(), 60+d.below(5))
		v.Next = d.number(1000, 1000, 1000, 1<<30-1, 1<<30-2)
		var cs []api.Clause
		for range 1 + d.below(8) {
			cs = append(cs, clause(t, d.text("absent v20", "absent v21", "absent v22", "absent t", "keep 0 of a", "keep 1 of a", "absent k", "absent c",
				"snapshot of a", "snapshot of e", "volume c size 1", "absent e")))
		}
		for i := range d.below(8) {
			c := api.Clause{Kind: 1, Name: fmt.Sprintf("n%d", i), Number: 1 + d.below(9), Thick: d.below(4) == 0}
			if other := fmt.Sprintf("n%d", d.below(8)); other > c.Name && d.below(2) == 0 {
				c.Other = other
			}
			cs = append(cs, c)
		}
		step, e := checkAsModel(t, d.mixed(cs), v)
		met[fmt.Sprintf("step %d: %d", step, e)]++
		if t.Failed() {
			return
		}
	}
	checkMet(t, met, 40, "step 0: 0", "step 2: 83", "step 4: 85", "step 7: 228", "step 8: 83")
}
