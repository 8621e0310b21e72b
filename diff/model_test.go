package diff_test

import (
	"cmp"
	"fmt"
	"slices"
	"strings"
	"testing"

	"cistern/api"
	"cistern/diff"
	"cistern/dry"
	"cistern/goal"
	"cistern/order"
)

// model follows the chapter word by word, by names and over sets of blocks.
type model struct {
	cs    []api.Clause
	v     api.View
	goal  api.View
	old   []*birth // of the view
	fresh []*birth
	made  []*birth
}

// birth is a volume as it was born.
type birth struct {
	id    int
	was   string // the name in the view
	name  string // the name behind the renames
	other string // the source's name
	size  int
	has   map[int]int
}

func modelOf(t *testing.T, cs []api.Clause, v api.View, g api.View) *model {
	t.Helper()
	m := &model{cs: cs, v: v, goal: g}
	for _, x := range v.Volumes {
		b := &birth{id: x.ID, was: x.Name, name: x.Name, size: x.Size, has: map[int]int{}}
		for _, r := range x.Mapped {
			for l := r.From; l < r.To; l++ {
				b.has[l] = 1
			}
		}
		for _, c := range cs {
			if c.Kind == api.ClauseRename && c.Name == x.Name {
				b.name = c.Other
			}
		}
		m.old = append(m.old, b)
	}
	names, at, e := goal.Fresh(cs, v)
	if e != api.OK {
		t.Fatalf("Fresh(%s) over %s = %d, %d", toldPlan(cs), told(v), at, e)
	}
	for _, c := range cs {
		if c.Kind == api.ClauseSnap {
			source, i := m.named(c.Other), len(m.fresh)
			m.fresh = append(m.fresh, &birth{id: v.Next + i, name: names[i], other: c.Other, size: source.size, has: source.has})
		}
	}
	for m.makeOne() {
	}
	return m
}

func (m *model) all() []*birth { return slices.Concat(m.old, m.fresh, m.made) }

func (m *model) named(name string) *birth {
	for _, b := range m.all() {
		if b.name == name {
			return b
		}
	}
	return nil
}

// makeOne makes the first volume that can be made.
func (m *model) makeOne() bool {
	id := m.v.Next + len(m.fresh) + len(m.made)
	for _, c := range m.cs {
		if c.Kind != api.ClauseVolume || m.named(c.Name) != nil {
			continue
		}
		if c.Other == "" {
			m.made = append(m.made, &birth{id: id, name: c.Name, size: c.Number})
			return true
		}
		if source := m.named(c.Other); source != nil {
			m.made = append(m.made, &birth{id: id, name: c.Name, other: c.Other, size: source.size, has: source.has})
			return true
		}
	}
	return false
}

// end gives a volume of the goal.
func (m *model) end(id int) (api.Volume, bool) {
	for _, x := range m.goal.Volumes {
		if x.ID == id {
			return x, true
		}
	}
	return api.Volume{}, false
}

func rising(list ...*birth) []*birth {
	slices.SortFunc(list, func(a *birth, b *birth) int { return cmp.Compare(a.id, b.id) })
	return list
}

func (m *model) isThick(name string) bool {
	return slices.ContainsFunc(m.cs, func(c api.Clause) bool { return c.Kind == api.ClauseVolume && c.Name == name && c.Thick })
}

// steps gives the six groups, told as layer 16 prints them.
func (m *model) steps() string {
	var out []string
	say := func(form string, parts ...any) { out = append(out, fmt.Sprintf(form, parts...)) }
	for _, b := range rising(m.old...) {
		if b.was != b.name {
			say("rename %s to %s", b.was, b.name)
		}
	}
	for _, b := range rising(m.fresh...) {
		say("snap %s of %s", b.name, b.other)
	}
	for _, b := range rising(slices.Concat(m.old, m.fresh)...) {
		if _, ok := m.end(b.id); !ok {
			say("delete %s", b.name)
		}
	}
	for _, b := range rising(m.made...) {
		if b.other == "" {
			say("create %s %d", b.name, b.size)
		} else {
			say("clone %s of %s", b.name, b.other)
		}
	}
	for _, b := range rising(slices.Concat(m.old, m.made)...) {
		if x, ok := m.end(b.id); ok && x.Size != b.size {
			say("resize %s %d", b.name, x.Size)
		}
	}
	for _, b := range rising(m.all()...) {
		x, _ := m.end(b.id)
		for from := 0; m.isThick(b.name) && from < x.Size; from += 32 {
			count, to := 0, min(from+32, x.Size)
			for l := from; l < to; l++ {
				count += b.has[l]
			}
			if count < to-from {
				say("fill %s %d %d", b.name, from, to)
			}
		}
	}
	return strings.Join(out, "; ")
}

// checkAsModel holds both calls against the model, where the plan denotes a view.
func checkAsModel(t *testing.T, cs []api.Clause, v api.View) {
	t.Helper()
	before, clauses := told(v), toldPlan(cs)
	g := goalOf(t, cs, v)
	end := told(g)
	want := modelOf(t, cs, v, g).steps()
	ops, e := diff.Steps(cs, v, g)
	if got := toldSteps(t, ops); got != want || e != api.OK {
		t.Errorf("Steps(%s) over %s\n= %s, %d;\nwant %s", clauses, before, got, e, want)
	}
	if isEmpty, e := diff.Empty(cs, v, g); isEmpty != (want == "") || e != api.OK {
		t.Errorf("Empty(%s) over %s = %v, %d; the steps are %s", clauses, before, isEmpty, e, want)
	}
	if told(v) != before || toldPlan(cs) != clauses || told(g) != end {
		t.Errorf("R4: the calls of %s over %s have made them %s, %s, %s", clauses, before, toldPlan(cs), told(v), told(g))
	}
}

// checkDone holds that what is done, in the order of layer 24, comes to the goal (P23.3), and that there is nothing to do then
// (P23.4). It tells whether the catalog was full, and whether the second was asked.
func checkDone(t *testing.T, cs []api.Clause, v api.View) (isFull bool, isAsked bool) {
	t.Helper()
	g := goalOf(t, cs, v)
	ops, e := diff.Steps(cs, v, g)
	ordered, noOrder := order.Steps(v, ops)
	behind, at, err := dry.All(v, ordered)
	isFull = err == api.ErrCatalogFull
	if e != api.OK || noOrder != api.OK || !isFull && (err != api.OK || !dry.Same(behind, g)) {
		t.Errorf("P23.3: %s over %s: %s, %d, ordered %s, %d\ncome to %s (%d, %d);\nwant %s",
			toldPlan(cs), told(v), toldSteps(t, ops), e, toldSteps(t, ordered), noOrder, told(behind), at, err, told(g))
	}
	hasFresh := slices.ContainsFunc(cs, func(c api.Clause) bool { return c.Kind == api.ClauseSnap })
	if dry.Same(v, g) && !hasFresh && len(ops) > 0 {
		t.Errorf("P23.4: %s over %s, which is the goal: %s", toldPlan(cs), told(v), toldSteps(t, ops))
	}
	if again, _, e := goal.Goal(cs, g); !hasFresh && e == api.OK && dry.Same(again, g) {
		isAsked = true
		ops, e := diff.Steps(cs, g, g)
		isEmpty, err := diff.Empty(cs, g, g)
		if len(ops) > 0 || e != api.OK || !isEmpty || err != api.OK {
			t.Errorf("P23.4: %s over the goal %s: %s, %d; %v, %d", toldPlan(cs), told(g), toldSteps(t, ops), e, isEmpty, err)
		}
	}
	return isFull, isAsked
}

// name draws a name: of a view's volume, or another.
func (d *drawing) name(v api.View) string {
	if n := len(v.Volumes); n > 0 && d.below(10) < 6 {
		return v.Volumes[d.below(n)].Name
	}
	if d.below(12) == 0 {
		return fmt.Sprintf("%s@%d", d.text("a", "b", "c"), v.Next+d.below(2))
	}
	return d.text("a", "b", "c", "d", "s", "x", "y", "z")
}

// size draws a size, often one at the seams of what one fill fills.
func (d *drawing) size() int {
	if d.below(2) == 0 {
		return 1 + d.below(12)
	}
	return max(1, 32*d.below(4)+d.number(-1, 0, 0, 1, 5, 17))
}

// mapped draws ranges, of which ends often lie at the seams too.
func (d *drawing) mapped(size int) []api.Range {
	switch d.below(5) {
	case 0:
		return nil
	case 1:
		return ranges(0, size)
	}
	var list []api.Range
	for l := d.below(4); l < size; l += 1 + d.below(4) {
		to := l + 1 + d.below(5)
		if d.below(2) == 0 {
			to = l - l%32 + 32*(1+d.below(2)) + d.number(-1, 0, 0, 0, 1)
		}
		list = append(list, api.Range{From: l, To: max(l+1, min(to, size))})
		l = list[len(list)-1].To
	}
	return list
}

// view draws a view that may be, whose names and IDs do not rise together.
func (d *drawing) view() api.View {
	v := api.View{Capacity: 1 + d.below(100), Next: 1}
	v.Free = d.below(v.Capacity + 1)
	count := d.number(0, 1, 2, 3, 4, 5, 6, 8)
	if d.below(8) == 0 {
		count = 60 + d.below(5)
	}
	for range count {
		x := api.Volume{ID: v.Next, Size: d.size(), Partial: d.below(16) == 0}
		v.Next += 1 + d.below(2)
		x.Name = d.name(api.View{Next: 3 + d.below(12)})
		if len(v.Volumes) > 6 {
			x.Name = fmt.Sprintf("%s%d", x.Name[:1], len(v.Volumes))
		}
		if n := len(v.Volumes); n > 0 && d.below(3) > 0 {
			x.Origin = v.Volumes[d.below(n)].ID - d.below(2)
			x.Kind = d.number(0, 1, 1)
		}
		x.Mapped = d.mapped(x.Size)
		isOther := func(o api.Volume) bool { return o.Name == x.Name }
		if !slices.ContainsFunc(v.Volumes, isOther) {
			v.Volumes = append(v.Volumes, x)
		}
	}
	byName(v.Volumes)
	return v
}

// clause draws a clause that may be.
func (d *drawing) clause(v api.View) api.Clause {
	c := api.Clause{Kind: d.number(1, 1, 1, 1, 2, 2, 3, 3, 4, 4, 5, 5, 6)}
	switch c.Kind {
	case api.ClauseVolume:
		c.Name, c.Number, c.Thick = d.name(v), d.size(), d.below(2) == 0
		if d.below(2) == 0 {
			c.Other = d.name(v)
		}
		for _, x := range v.Volumes {
			for _, y := range v.Volumes {
				if x.Name == c.Name && x.Origin == y.ID && c.Other != "" {
					c.Other = y.Name
				}
			}
		}
	case api.ClauseSnap:
		c.Other = d.name(v)
	case api.ClauseKeep:
		c.Other, c.Number = d.name(v), d.number(0, 0, 1, 1, 2, 3, 1<<40)
	case api.ClauseAbsent:
		c.Name = d.name(v)
	case api.ClauseRename:
		c.Name, c.Other = d.name(v), d.name(v)
	}
	return c
}

// plan draws clauses: of all kinds, or of some alone.
func (d *drawing) plan(v api.View) []api.Clause {
	var cs []api.Clause
	kinds := [][]int{{1, 2, 3, 4, 5, 6}, {5}, {2, 5}, {1, 2}, {1}, {1}, {2, 3, 4}, {1, 3, 4, 6}, {3, 4, 6}}[d.below(9)]
	for range d.below(9) {
		if c := d.clause(v); slices.Contains(kinds, c.Kind) {
			cs = append(cs, c)
		}
	}
	if d.below(3) == 0 && len(v.Volumes) > 0 {
		// A circle of renames of what is there, which is seldom drawn otherwise.
		first, last := d.below(len(v.Volumes)), 1+d.below(3)
		for i := range last {
			old, to := v.Volumes[(first+i)%len(v.Volumes)].Name, v.Volumes[(first+(i+1)%last)%len(v.Volumes)].Name
			cs = append(cs, api.Clause{Kind: api.ClauseRename, Name: old, Other: to})
		}
	}
	if d.below(3) == 0 {
		// New volumes, of each other, in a list whose order is mixed later.
		for i := range 1 + d.below(4) {
			c := api.Clause{Kind: api.ClauseVolume, Name: fmt.Sprintf("n%d", i), Number: d.size(), Thick: d.below(2) == 0}
			if i > 0 && d.below(3) > 0 {
				c.Other = fmt.Sprintf("n%d", d.below(i))
			} else if d.below(2) == 0 {
				c.Other = d.name(v)
			}
			cs = append(cs, c)
		}
	}
	return d.mixed(cs)
}

// mixed brings clauses into another order, and gives each a place of its own.
func (d *drawing) mixed(cs []api.Clause) []api.Clause {
	for i := range cs {
		k := i + d.below(len(cs)-i)
		cs[i], cs[k] = cs[k], cs[i]
		cs[i].At = 100*d.below(100) + i
	}
	return cs
}

// denoting draws a view and a plan that denotes one over it: clauses are taken out until it does.
func (d *drawing) denoting() ([]api.Clause, api.View) {
	v := d.view()
	cs := d.plan(v)
	for {
		_, at, e := goal.Goal(cs, v)
		if e == api.OK {
			return cs, v
		}
		cs = slices.DeleteFunc(cs, func(c api.Clause) bool { return c.At == at })
	}
}

// Drawn plans over drawn views.
func TestP23_1AgainstTheModel(t *testing.T) {
	d := &drawing{seed: 23}
	met := map[string]int{}
	for range 25000 {
		cs, v := d.denoting()
		checkAsModel(t, cs, v)
		ops, _ := diff.Steps(cs, v, goalOf(t, cs, v))
		counts := make([]int, 12)
		for _, o := range ops {
			counts[o.Kind]++
		}
		for kind, count := range counts {
			met[fmt.Sprintf("%d: %d", kind, min(count, 2))]++
		}
		if t.Failed() {
			return
		}
	}
	for _, kind := range []int{api.OpRename, api.OpSnap, api.OpDelete, api.OpCreate, api.OpClone, api.OpResize, api.OpFill} {
		for count := range 3 {
			if what := fmt.Sprintf("%d: %d", kind, count); met[what] < 200 {
				t.Errorf("%s was met %d times; all: %v", what, met[what], met)
			}
		}
	}
}

// What drawn plans need to be done comes to the goal, and there is nothing to do behind it.
func TestP23_3AndP23_4OfDrawnPlans(t *testing.T) {
	d := &drawing{seed: 24}
	asked, full := 0, 0
	for range 25000 {
		cs, v := d.denoting()
		isFull, isAsked := checkDone(t, cs, v)
		if isFull {
			full++
		}
		if isAsked && len(cs) > 2 {
			asked++
		}
		if t.Failed() {
			return
		}
	}
	if asked < 2000 || full > 0 {
		t.Errorf("P23.4 was asked %d times; the catalog was full %d times", asked, full)
	}
}

// What a plan without its first clause denotes is its goal only where that clause turns nothing.
func TestP23_1DrawnGoalsOfOtherPlans(t *testing.T) {
	d := &drawing{seed: 25}
	refused, taken := 0, 0
	for range 10000 {
		cs, v := d.denoting()
		g, _, e := goal.Goal(slices.Delete(slices.Clone(cs), 0, min(1, len(cs))), v)
		if e != api.OK {
			continue
		}
		if dry.Same(g, goalOf(t, cs, v)) {
			taken++
			if _, e := diff.Steps(cs, v, g); e != api.OK {
				t.Errorf("Steps(%s) over %s with the goal %s = %d", toldPlan(cs), told(v), told(g), e)
			}
			continue
		}
		refused++
		checkRefused(t, cs, v, g)
		if t.Failed() {
			return
		}
	}
	if refused < 1000 || taken < 1000 {
		t.Errorf("%d goals were refused, %d taken", refused, taken)
	}
}
