package dry_test

import (
	"slices"
	"strings"
	"testing"

	"cistern/api"
	"cistern/dry"
)

// model is a view as the document tells of it: volumes by name, each with the set of the blocks that it maps.
type model struct {
	capacity int
	free     int
	next     int
	volumes  map[string]*volume
}

type volume struct {
	api.Volume
	has map[int]bool
}

func modelOf(v api.View) *model {
	m := &model{v.Capacity, v.Free, v.Next, map[string]*volume{}}
	for _, x := range v.Volumes {
		has := map[int]bool{}
		for _, r := range x.Mapped {
			for l := r.From; l < r.To; l++ {
				has[l] = true
			}
		}
		m.volumes[x.Name] = &volume{x, has}
	}
	return m
}

// view gives the model as a view, its ranges block by block.
func (m *model) view() api.View {
	v := api.View{Capacity: m.capacity, Free: m.free, Next: m.next}
	for _, x := range m.volumes {
		x.Mapped = nil
		var blocks []int
		for l := range x.has {
			blocks = append(blocks, l)
		}
		slices.Sort(blocks)
		for i, l := range blocks {
			if i == 0 || blocks[i-1] != l-1 {
				x.Mapped = append(x.Mapped, api.Range{From: l, To: l + 1})
			} else {
				x.Mapped[len(x.Mapped)-1].To = l + 1
			}
		}
		v.Volumes = append(v.Volumes, x.Volume)
	}
	slices.SortFunc(v.Volumes, func(a api.Volume, b api.Volume) int { return strings.Compare(a.Name, b.Name) })
	return v
}

// uses tells which fields a kind uses: N, O, F, T, D.
func uses(kind int) string {
	return []string{"", "NT", "NO", "NO", "NT", "NO", "N", "NO", "NFD", "NFT", "NFT", "T"}[kind]
}

func isName(name string) bool {
	if len(name) < 1 || len(name) > 31 || strings.Trim(name[:1], "abcdefghijklmnopqrstuvwxyz~") != "" {
		return false
	}
	return strings.Trim(name, "abcdefghijklmnopqrstuvwxyz0123456789.-_@~") == ""
}

func isOne(kind int, of ...int) bool { return slices.Contains(of, kind) }

// holds tells of each number of chapter 10's list, 1 to 11, the error of it that holds, whatever else does.
func (m *model) holds(o api.Op) map[int]api.Errno {
	h := map[int]api.Errno{}
	set := func(n int, e api.Errno, is bool) {
		if is && h[n] == api.OK {
			h[n] = e
		}
	}
	if o.Kind < 1 || o.Kind > 11 {
		return map[int]api.Errno{1: api.ErrActKind}
	}
	has := func(field string) bool { return strings.Contains(uses(o.Kind), field) }
	set(2, api.ErrActForm, !has("N") && o.Name != "" || !has("O") && o.Other != "" || !has("F") && o.From != 0)
	set(2, api.ErrActForm, !has("T") && o.To != 0 || !has("D") && len(o.Data) > 0)
	set(3, api.ErrActName, has("N") && !isName(o.Name) || has("O") && !isName(o.Other))
	set(4, api.ErrActData, o.Kind == 8 && len(o.Data) != 512)
	name, other := m.volumes[o.Name], m.volumes[o.Other]
	set(5, api.ErrActUnknown, name == nil && isOne(o.Kind, 4, 5, 6, 7, 8, 9, 10) || other == nil && isOne(o.Kind, 2, 3, 7))
	set(6, api.ErrActTaken, name != nil && isOne(o.Kind, 1, 2, 3) || other != nil && o.Kind == 5)
	set(7, api.ErrActSize, isOne(o.Kind, 1, 4) && (o.To < 1 || o.To > 262144))
	set(7, api.ErrActSize, o.Kind == 11 && (o.To <= m.capacity || o.To > 262144))
	size := 0
	if name != nil {
		size = name.Size
	}
	set(8, api.ErrActRange, o.Kind == 8 && (o.From < 0 || o.From >= size))
	set(8, api.ErrActRange, isOne(o.Kind, 9, 10) && (o.From < 0 || o.To > size || o.From > o.To))
	set(8, api.ErrActRange, o.Kind == 10 && o.To > o.From+32)
	set(9, api.ErrActPartial, name != nil && name.Partial && isOne(o.Kind, 4, 5, 7, 8, 9, 10))
	set(9, api.ErrActPartial, other != nil && other.Partial && isOne(o.Kind, 2, 3, 7))
	for _, x := range m.volumes {
		set(10, api.ErrActChildren, o.Kind == 6 && name != nil && x.Origin == name.ID)
	}
	set(11, api.ErrCatalogFull, isOne(o.Kind, 1, 2, 3) && len(m.volumes) >= 64)
	set(11, api.ErrCatalogIDs, isOne(o.Kind, 1, 2, 3) && m.next > 1<<30)
	return h
}

// answer gives the first error that holds, and its number.
func (m *model) answer(o api.Op) (int, api.Errno) {
	h := m.holds(o)
	for n := 1; n <= 11; n++ {
		if h[n] != api.OK {
			return n, h[n]
		}
	}
	return 0, api.OK
}

// do does an operation that nothing is against.
func (m *model) do(o api.Op) {
	name, other := m.volumes[o.Name], m.volumes[o.Other]
	has := map[int]bool{}
	if other != nil {
		for l := range other.has {
			has[l] = true
		}
	}
	switch o.Kind {
	case 1:
		m.add(api.Volume{Name: o.Name, Size: o.To}, has)
	case 2, 3:
		m.add(api.Volume{Name: o.Name, Size: other.Size, Origin: other.ID, Kind: 3 - o.Kind}, has)
	case 4:
		name.Size = o.To
		name.turn(o.To, 262144, false)
	case 5:
		delete(m.volumes, o.Name)
		name.Name = o.Other
		m.volumes[o.Other] = name
	case 6:
		delete(m.volumes, o.Name)
	case 7:
		name.Size, name.has = other.Size, has
	case 8:
		name.has[o.From] = true
	case 9, 10:
		name.turn(o.From, o.To, o.Kind == 10)
	case 11:
		m.capacity = o.To
	}
}

func (m *model) add(v api.Volume, has map[int]bool) {
	v.ID = m.next
	m.next++
	m.volumes[v.Name] = &volume{v, has}
}

// turn says of each block of a range whether it is mapped.
func (x *volume) turn(from int, to int, is bool) {
	if is {
		for l := from; l < to; l++ {
			x.has[l] = true
		}
		return
	}
	for l := range x.has {
		if l >= from && l < to {
			delete(x.has, l)
		}
	}
}

// checkAsModel holds Do of a view that may be against the model, and gives what the model answers and the view behind it.
func checkAsModel(t *testing.T, v api.View, o api.Op) (int, api.Errno, api.View) {
	t.Helper()
	m := modelOf(v)
	number, want := m.answer(o)
	wanted := api.View{}
	if want == api.OK {
		m.do(o)
		wanted = m.view()
	}
	before := told(v)
	got, e := dry.Do(v, o)
	if told(got) != told(wanted) || e != want {
		t.Errorf("Do(%s) over %s\n= %s, %d;\nwant %s, %d", toldOp(o), before, told(got), e, told(wanted), want)
	}
	if told(v) != before {
		t.Errorf("R4: Do(%s) over %s has made it %s", toldOp(o), before, told(v))
	}
	return number, want, got
}

// name draws one of few names, of which some may not be.
func (d *drawing) name() string {
	if d.below(40) == 0 {
		return d.text("", "A", "-a", "a b", "0", "aé", strings.Repeat("a", 32))
	}
	return d.text("a", "aa", "b", "b-", "b.", "c", "~", "z9", "zz", strings.Repeat("a", 31))
}

// near draws a number at or near one of some numbers.
func (d *drawing) near(of ...int) int {
	return d.number(of...) + d.number(0, 0, 0, 0, 0, 1, -1)
}

// op draws an operation that names volumes of a view more often than not.
func (d *drawing) op(v api.View) api.Op {
	o := api.Op{Kind: 1 + d.below(11)}
	if d.below(60) == 0 {
		o.Kind = d.number(0, 12, -1, 100)
		return o
	}
	size := 10
	name := func() string {
		if len(v.Volumes) == 0 || d.below(3) == 0 {
			return d.name()
		}
		x := v.Volumes[d.below(len(v.Volumes))]
		size = x.Size
		return x.Name
	}
	has := func(field string) bool { return strings.Contains(uses(o.Kind), field) != (d.below(150) == 0) }
	if has("O") {
		o.Other = name()
		if isOne(o.Kind, 5) && d.below(2) == 0 {
			o.Other = d.name()
		}
	}
	if has("N") {
		o.Name = name()
		if isOne(o.Kind, 1, 2, 3) && d.below(2) == 0 {
			o.Name = d.name()
		}
	}
	if has("F") {
		o.From = d.near(d.below(size+1), d.below(size+1), 0)
	}
	if has("T") {
		o.To = d.near(d.below(size+1), d.below(20)+1, size, o.From, o.From+d.below(32), o.From+32)
		if d.below(10) == 0 {
			o.To = d.near(262144, 262143, 1, v.Capacity)
		}
		if o.Kind == api.OpExtend && d.below(2) == 0 {
			o.To = v.Capacity + 1
		}
	}
	if has("D") {
		o.Data = make([]byte, d.number(512, 512, 512, 512, 512, 512, 512, 511, 513, 0))
	}
	return o
}

// start draws a view that may be, with some volumes of all sorts.
func (d *drawing) start() api.View {
	v := api.View{Capacity: 1 + d.below(100), Next: d.number(1, 1, 5, 1<<30-3, 1<<30+1)}
	v.Free = d.below(v.Capacity + 1)
	if d.below(4) == 0 {
		v.Capacity = d.number(1, 262143, 262144)
		v.Free = 0
	}
	return v
}

// Many operations, one behind the other, each held against the model.
func TestP21_1AgainstTheModel(t *testing.T) {
	d := &drawing{seed: 1}
	met := map[api.Errno]int{}
	kinds := map[int]int{}
	for range 600 {
		v := d.start()
		for range 60 {
			o := d.op(v)
			_, e, behind := checkAsModel(t, v, o)
			met[e]++
			if e == api.OK {
				v = behind
				kinds[o.Kind]++
			}
			if len(v.Volumes) > 0 && d.below(30) == 0 {
				i := d.below(len(v.Volumes))
				v.Volumes[i].Partial = !v.Volumes[i].Partial
			}
			if t.Failed() {
				return
			}
		}
	}
	checkMet(t, met, 40, api.OK, api.ErrActKind, api.ErrActForm, api.ErrActName, api.ErrActData, api.ErrActUnknown, api.ErrActTaken,
		api.ErrActSize, api.ErrActRange, api.ErrActPartial, api.ErrActChildren, api.ErrCatalogIDs)
	for kind := 1; kind <= 11; kind++ {
		if kinds[kind] < 200 {
			t.Errorf("kind %d was done %d times; all: %v", kind, kinds[kind], kinds)
		}
	}
}

// Lists of operations, with what All tells of them held against the operations done one by one.
func TestP21_2AgainstTheModel(t *testing.T) {
	d := &drawing{seed: 2}
	whole, least := 0, map[int]int{}
	for range 4000 {
		v := d.start()
		m := modelOf(v)
		var ops []api.Op
		at, want := 0, api.OK
		for i := range d.below(12) {
			o := d.op(m.view())
			if _, e := m.answer(o); e != api.OK && d.below(3) > 0 {
				continue
			}
			ops = append(ops, o)
			if _, e := m.answer(o); e != api.OK {
				at, want = len(ops)-1, e
				ops = append(ops, d.op(v), create("x", 1))[:len(ops)+i%3]
				break
			}
			m.do(o)
		}
		wanted := m.view()
		if want != api.OK {
			wanted = api.View{}
			least[at]++
		} else {
			whole++
		}
		before := told(v)
		got, n, e := dry.All(v, ops)
		if told(got) != told(wanted) || n != at || e != want {
			t.Fatalf("All(%v) over %s\n= %s, %d, %d;\nwant %s, %d, %d", ops, before, told(got), n, e, told(wanted), at, want)
		}
		if told(v) != before {
			t.Fatalf("R4: All has made %s of %s", told(v), before)
		}
	}
	if whole < 300 || least[0] < 100 || least[3] < 30 {
		t.Errorf("%d lists were done, and refused at: %v", whole, least)
	}
}
