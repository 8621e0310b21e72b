package order_test

import (
	"fmt"
	"slices"
	"testing"

	"cistern/api"
	"cistern/op"
	"cistern/order"
)

// plainOrder looks at all things again and again for the least one that is ready; it ends early where there is a circle.
func plainOrder(n int, es []api.Edge) []int {
	var out []int
	for {
		next := slices.IndexFunc(rising(n), func(thing int) bool {
			waits := func(e api.Edge) bool { return e.After == thing && !slices.Contains(out, e.Before) }
			return !slices.Contains(out, thing) && !slices.ContainsFunc(es, waits)
		})
		if next < 0 {
			return out
		}
		out = append(out, next)
	}
}

// inCircles tells which things lead back to themselves.
func inCircles(n int, es []api.Edge) []int {
	var out []int
	for thing := range n {
		met := []int{}
		next := []int{thing}
		for len(next) > 0 {
			at := next[0]
			next = next[1:]
			for _, e := range es {
				if e.Before == at && !slices.Contains(met, e.After) {
					met = append(met, e.After)
					next = append(next, e.After)
				}
			}
		}
		if slices.Contains(met, thing) {
			out = append(out, thing)
		}
	}
	return out
}

// edges draws edges between some things: many or few, often such as lead to greater numbers, so that there is no circle.
func (d *drawing) edges(n int) []api.Edge {
	var es []api.Edge
	kind := d.below(3)
	mixed := rising(n)
	for i := range mixed {
		k := i + d.below(n-i)
		mixed[i], mixed[k] = mixed[k], mixed[i]
	}
	for range d.below(3 * n) {
		a, b := d.below(n), d.below(n)
		if kind > 0 && a == b {
			continue
		}
		if kind > 0 && d.below(30) > 0 {
			a, b = min(a, b), max(a, b)
		}
		es = append(es, api.Edge{Before: mixed[a], After: mixed[b]})
		if d.below(8) == 0 {
			es = append(es, es[d.below(len(es))])
		}
	}
	return es
}

// Drawn edges.
func TestP24_1AndP24_2AgainstTheModel(t *testing.T) {
	d := &drawing{seed: 1}
	met := map[string]int{}
	for range 20000 {
		n := 1 + d.below(12)
		es := d.edges(n)
		want, circles := plainOrder(n, es), inCircles(n, es)
		if len(circles) == 0 {
			met["order"]++
			checkOrder(t, n, es, want...)
		} else {
			checkCircle(t, n, es, circles...)
			got, _ := order.Circle(n, es)
			met[fmt.Sprint("circle of ", min(len(got), 4))]++
			if len(circles)+len(want) < n {
				met["behind a circle"]++
			}
		}
		if t.Failed() {
			return
		}
	}
	for _, what := range []string{"order", "circle of 1", "circle of 2", "circle of 3", "circle of 4", "behind a circle"} {
		if met[what] < 300 {
			t.Errorf("%s was met %d times; all: %v", what, met[what], met)
		}
	}
}

// All edges between few things.
func TestP24_1AndP24_2AllSmall(t *testing.T) {
	for n := 1; n <= 3; n++ {
		for set := range 1 << (n * n) {
			var es []api.Edge
			for i := range n * n {
				if set>>i&1 == 1 {
					es = append(es, api.Edge{Before: i / n, After: i % n})
				}
			}
			if circles := inCircles(n, es); len(circles) > 0 {
				checkCircle(t, n, es, circles...)
			} else {
				checkOrder(t, n, es, plainOrder(n, es)...)
			}
		}
	}
}

// model follows the chapter's rules word by word, pair by pair.
type model struct {
	v     api.View
	asked []api.Op // as they are handed in
	ops   []api.Op // with circles of renames broken
	first []int    // of each whether it is the first of two
	later []int    // of each whether it is the second of two
}

// mayBe asks for what Steps refuses.
func (m *model) mayBe() bool {
	kinds := []int{api.OpRename, api.OpSnap, api.OpDelete, api.OpCreate, api.OpClone, api.OpResize, api.OpFill}
	for i, o := range m.asked {
		if op.Check(o) != api.OK || !slices.Contains(kinds, o.Kind) {
			return false
		}
		for k, p := range m.asked {
			if i != k && o.Kind == api.OpRename && p.Kind == api.OpRename && (o.Name == p.Name || o.Other == p.Other) {
				return false
			}
		}
		for _, x := range m.v.Volumes {
			if o.Kind == api.OpRename && o.Other == x.Name && m.behind(x.Name) == x.Name && m.mover(x.Name) < 0 {
				return false
			}
		}
	}
	return true
}

// mover gives the number of the rename of a name, or -1.
func (m *model) mover(name string) int {
	return slices.IndexFunc(m.asked, func(o api.Op) bool { return o.Kind == api.OpRename && o.Name == name })
}

func (m *model) behind(name string) string {
	if i := m.mover(name); i >= 0 {
		return m.asked[i].Other
	}
	return name
}

// circles gives the names of each circle of renames, the least one first, by these.
func (m *model) circles() [][]string {
	var out [][]string
	for _, o := range m.asked {
		if o.Kind != api.OpRename {
			continue
		}
		names := []string{o.Name}
		at := o.Other
		for m.mover(at) >= 0 && !slices.Contains(names, at) {
			names = append(names, at)
			at = m.behind(at)
		}
		if at == o.Name && len(names) > 1 && slices.Min(names) == o.Name {
			out = append(out, names)
		}
	}
	slices.SortFunc(out, slices.Compare)
	return out
}

func (m *model) isName(name string) bool {
	isVolume := func(x api.Volume) bool { return x.Name == name }
	isNamed := func(o api.Op) bool { return o.Name == name || o.Other == name }
	return slices.ContainsFunc(m.v.Volumes, isVolume) || slices.ContainsFunc(m.asked, isNamed)
}

func (m *model) breakCircles() {
	m.ops = slices.Clone(m.asked)
	var taken []string
	for _, names := range m.circles() {
		k := 1
		for m.isName(fmt.Sprint("~", k)) || slices.Contains(taken, fmt.Sprint("~", k)) {
			k++
		}
		name := fmt.Sprint("~", k)
		taken = append(taken, name)
		i := slices.IndexFunc(m.ops, func(o api.Op) bool { return o.Kind == api.OpRename && o.Name == names[0] })
		two := []api.Op{{Kind: api.OpRename, Name: names[0], Other: name}, {Kind: api.OpRename, Name: name, Other: m.ops[i].Other}}
		m.ops = slices.Replace(m.ops, i, i+1, two...)
	}
	for i := range m.ops {
		isFirst, isLater := 0, 0
		if slices.Contains(taken, m.ops[i].Other) {
			isFirst = 1
		}
		if slices.Contains(taken, m.ops[i].Name) {
			isLater = 1
		}
		m.first, m.later = append(m.first, isFirst), append(m.later, isLater)
	}
}

// there gives the volume of a name behind the renames.
func (m *model) there(name string) (api.Volume, bool) {
	for _, x := range m.v.Volumes {
		if m.behind(x.Name) == name {
			return x, true
		}
	}
	return api.Volume{}, false
}

// born gives the size at birth, of a name to which some names lead.
func (m *model) born(name string, from ...string) int {
	if x, ok := m.there(name); ok {
		return x.Size
	}
	if slices.Contains(from, name) {
		return 0
	}
	for _, o := range m.ops {
		switch {
		case o.Name != name:
		case o.Kind == api.OpCreate:
			return o.To
		case o.Kind == api.OpSnap || o.Kind == api.OpClone:
			return m.born(o.Other, append(from, name)...)
		}
	}
	return 0
}

func (m *model) group(o api.Op) int {
	switch o.Kind {
	case api.OpRename:
		return 1
	case api.OpSnap:
		return 2
	case api.OpDelete:
		return 3
	case api.OpCreate, api.OpClone:
		return 4
	case api.OpFill:
		return 7
	}
	if o.To <= m.born(o.Name) {
		return 5
	}
	return 6
}

// source gives the name that a name comes from, or "".
func (m *model) source(name string) string {
	if x, ok := m.there(name); ok {
		for _, y := range m.v.Volumes {
			if y.ID == x.Origin {
				return m.behind(y.Name)
			}
		}
		return ""
	}
	for _, o := range m.ops {
		if o.Kind == api.OpSnap && o.Name == name {
			return o.Other
		}
	}
	return ""
}

// isAhead tells whether there is an edge from one operation to another, which may be itself.
func (m *model) isAhead(i int, k int) bool {
	a, b := m.ops[i], m.ops[k]
	if x, y := m.group(a), m.group(b); x != y {
		return x < y
	}
	switch m.group(a) {
	case 1:
		isPair := m.first[i] == 1 && k == i+1
		return isPair || i != k && a.Name == b.Other && m.later[i] == 0 && m.first[k] == 0
	case 2:
		return i < k
	case 3:
		return m.source(a.Name) == b.Name && a.Name != b.Name
	case 4:
		return b.Kind == api.OpClone && a.Name == b.Other
	}
	return false
}

func (m *model) steps() ([]api.Op, api.Errno) {
	if !m.mayBe() {
		return nil, api.ErrOrderStep
	}
	m.breakCircles()
	var es []api.Edge
	for i := range m.ops {
		for k := range m.ops {
			if m.isAhead(i, k) {
				es = append(es, api.Edge{Before: i, After: k})
			}
		}
	}
	numbers := plainOrder(len(m.ops), es)
	if len(numbers) < len(m.ops) {
		return nil, api.ErrOrderCircle
	}
	var out []api.Op
	for _, i := range numbers {
		out = append(out, m.ops[i])
	}
	return out, api.OK
}

// checkAsModel holds Steps against the model, and tells what it answered.
func checkAsModel(t *testing.T, v api.View, ops []api.Op) ([]api.Op, api.Errno) {
	t.Helper()
	before, asked := told(v), toldSteps(ops)
	want, err := (&model{v: v, asked: ops}).steps()
	got, e := order.Steps(v, ops)
	if toldSteps(got) != toldSteps(want) || e != err {
		t.Errorf("Steps(%s) over %s\n= %s, %d;\nwant %s, %d", asked, before, toldSteps(got), e, toldSteps(want), err)
	}
	if told(v) != before || toldSteps(ops) != asked {
		t.Errorf("R4: Steps(%s) over %s has made them %s, %s", asked, before, toldSteps(ops), told(v))
	}
	return got, e
}

// name draws a name of few.
func (d *drawing) name() string { return d.text("a", "b", "c", "d", "e", "s", "~1", "~2") }

// view draws a view that may be.
func (d *drawing) view() api.View {
	v := api.View{Capacity: 100, Free: d.below(100), Next: 1}
	for range d.below(7) {
		x := api.Volume{Name: d.name(), ID: v.Next, Size: 1 + d.below(6), Partial: d.below(9) == 0}
		v.Next += 1 + d.below(2)
		if n := len(v.Volumes); n > 0 && d.below(3) > 0 {
			x.Origin, x.Kind = v.Volumes[d.below(n)].ID-d.below(2), d.below(2)
		}
		if !slices.ContainsFunc(v.Volumes, func(o api.Volume) bool { return o.Name == x.Name }) {
			v.Volumes = append(v.Volumes, x)
		}
	}
	byName(v.Volumes)
	return v
}

// step draws a step, of kinds of which some may be left out.
func (d *drawing) step(kinds ...int) api.Op {
	o := api.Op{Kind: d.number(kinds...), Name: d.name()}
	switch o.Kind {
	case api.OpRename, api.OpSnap, api.OpClone:
		o.Other = d.name()
	case api.OpCreate, api.OpResize:
		o.To = 1 + d.below(8)
	case api.OpFill:
		o.To = d.below(5)
	}
	return o
}

// steps draws steps: of all kinds or of some, with renames of which no two have one Name or one Other.
func (d *drawing) steps() []api.Op {
	kinds := [][]int{
		{api.OpRename, api.OpSnap, api.OpDelete, api.OpCreate, api.OpClone, api.OpResize, api.OpFill}, {api.OpRename}, {api.OpRename, api.OpRename, api.OpDelete, api.OpResize},
		{api.OpSnap, api.OpDelete}, {api.OpRename, api.OpSnap, api.OpDelete}, {api.OpCreate, api.OpClone}, {api.OpSnap, api.OpCreate, api.OpClone, api.OpResize}, {api.OpClone, api.OpSnap, api.OpResize},
	}[d.below(8)]
	var ops []api.Op
	if d.below(4) == 0 {
		ops = d.turning()
	}
	for range d.below(12) {
		o := d.step(kinds...)
		isLike := func(p api.Op) bool {
			return o.Kind == api.OpRename && p.Kind == o.Kind && (p.Name == o.Name || p.Other == o.Other)
		}
		if !slices.ContainsFunc(ops, isLike) || d.below(60) == 0 {
			ops = append(ops, o)
		}
	}
	return d.mixed(ops)
}

// turning draws renames of which each name goes to one of them.
func (d *drawing) turning() []api.Op {
	names := []string{"a", "b", "c", "d", "e", "s", "~1", "~2"}[d.below(3):]
	to := slices.Clone(names)
	var ops []api.Op
	for i, name := range names {
		k := i + d.below(len(to)-i)
		to[i], to[k] = to[k], to[i]
		if name != to[i] || d.below(8) == 0 {
			ops = append(ops, api.Op{Kind: api.OpRename, Name: name, Other: to[i]})
		}
	}
	return ops
}

// mixed brings operations into another order.
func (d *drawing) mixed(ops []api.Op) []api.Op {
	for i := range ops {
		k := i + d.below(len(ops)-i)
		ops[i], ops[k] = ops[k], ops[i]
	}
	return ops
}

// free lets the volumes go that stand in a rename's way, but for some.
func (d *drawing) free(v api.View, ops []api.Op) api.View {
	m := &model{v: v, asked: ops}
	v.Volumes = slices.DeleteFunc(slices.Clone(v.Volumes), func(x api.Volume) bool {
		stands := func(o api.Op) bool { return o.Kind == api.OpRename && o.Other == x.Name && m.mover(x.Name) < 0 }
		return slices.ContainsFunc(ops, stands) && d.below(40) > 0
	})
	return v
}

// Drawn steps over drawn views.
func TestP24_3AgainstTheModel(t *testing.T) {
	d := &drawing{seed: 24}
	met := map[string]int{}
	for range 40000 {
		ops := d.steps()
		v := d.free(d.view(), ops)
		out, e := checkAsModel(t, v, ops)
		if t.Failed() {
			return
		}
		met[fmt.Sprint("error ", int(e))]++
		if e != api.OK {
			continue
		}
		if toldSteps(out) != toldSteps(ops) {
			met["another order"]++
		}
		met[fmt.Sprint("circles of renames ", len(out)-len(ops))]++
	}
	for _, what := range []string{"error 0", "error 241", "error 242", "another order", "circles of renames 0", "circles of renames 1", "circles of renames 2", "circles of renames 3"} {
		if met[what] < 300 {
			t.Errorf("%s was met %d times; all: %v", what, met[what], met)
		}
	}
}
