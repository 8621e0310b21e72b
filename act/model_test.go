package act_test

import (
	"bytes"
	"fmt"
	"slices"
	"strings"
	"testing"

	"cistern/act"
	"cistern/api"
)

// leaf is a thing of the model: a node or a data block, as the document tells of it.
type leaf struct {
	level int
	refs  int
	kids  map[int]*leaf
	data  []byte
	old   bool // it was there when the transaction began
}

func spans(level int) int { return []int{4096, 64, 1}[level] }

// kid tells which entry of a node of that level leads on to l.
func kid(level int, l int) int { return l / spans(level) % 64 }

// mapped goes through the logical blocks of a thing.
func (x *leaf) mapped(first int, found map[int]*leaf) map[int]*leaf {
	if x == nil {
		return found
	}
	if x.level == 3 {
		found[first] = x
	}
	for i, k := range x.kids {
		k.mapped(first+i*spans(x.level), found)
	}
	return found
}

// reached goes through all things that hang on one, and on itself.
func (x *leaf) reached(found map[*leaf]bool) {
	if x == nil || found[x] {
		return
	}
	found[x] = true
	for _, k := range x.kids {
		k.reached(found)
	}
}

// parted tells how many of the mapped blocks lie in a range, and how many do not.
func (x *leaf) parted(first int, from int, to int) (int, int) {
	in, out := 0, 0
	for l := range x.mapped(first, map[int]*leaf{}) {
		if l >= from && l < to {
			in++
		} else {
			out++
		}
	}
	return in, out
}

// need is the need of a write at l.
func (x *leaf) need(level int, own bool, l int) int {
	n := 1
	if x != nil && own && x.refs == 1 {
		n = 0
	}
	if level == 3 {
		return n
	}
	var next *leaf
	if x != nil {
		next = x.kids[kid(level, l)]
	}
	return n + next.need(level+1, n == 0, l)
}

func (x *leaf) needDrop(first int, own bool, from int, to int) int {
	if x == nil || x.level == 3 {
		return 0
	}
	own = own && x.refs == 1
	in, out := x.parted(first, from, to)
	n := 0
	if in > 0 && out > 0 && !own {
		n = 1
	}
	for i, k := range x.kids {
		n += k.needDrop(first+i*spans(x.level), own, from, to)
	}
	return n
}

// volume is one of the model.
type volume struct {
	api.Entry
	map_ *leaf
}

// abstract is the pool of the chapter: volumes, and how many pool blocks are let go and not free yet.
type abstract struct {
	capacity int
	bound    int
	next     int
	lost     int
	volumes  []*volume
}

// cloned gives a pool that shares nothing with this one.
func (a *abstract) cloned() *abstract {
	seen := map[*leaf]*leaf{}
	var copyOf func(x *leaf) *leaf
	copyOf = func(x *leaf) *leaf {
		if x == nil {
			return nil
		}
		if c := seen[x]; c != nil {
			return c
		}
		c := &leaf{level: x.level, refs: x.refs, kids: map[int]*leaf{}, data: x.data, old: x.old}
		seen[x] = c
		for i, k := range x.kids {
			c.kids[i] = copyOf(k)
		}
		return c
	}
	out := &abstract{capacity: a.capacity, bound: a.bound, next: a.next, lost: a.lost}
	for _, v := range a.volumes {
		out.volumes = append(out.volumes, &volume{v.Entry, copyOf(v.map_)})
	}
	return out
}

func (a *abstract) things() map[*leaf]bool {
	found := map[*leaf]bool{}
	for _, v := range a.volumes {
		v.map_.reached(found)
	}
	return found
}

func (a *abstract) free() int { return a.capacity - len(a.things()) - a.lost }

// committed says that a transaction is over and another one begins.
func (a *abstract) committed() {
	a.lost = 0
	for x := range a.things() {
		x.old = true
	}
}

func (a *abstract) named(name string) *volume {
	for _, v := range a.volumes {
		if v.Name == name {
			return v
		}
	}
	return nil
}

// lose takes a reference.
func (a *abstract) lose(x *leaf) {
	if x == nil {
		return
	}
	if x.refs--; x.refs == 0 {
		if x.old {
			a.lost++
		}
		for _, k := range x.kids {
			a.lose(k)
		}
	}
}

// copied gives a copy of a node that takes its place.
func (a *abstract) copied(x *leaf) *leaf {
	c := &leaf{level: x.level, refs: 1, kids: map[int]*leaf{}}
	for i, k := range x.kids {
		c.kids[i] = k
		k.refs++
	}
	a.lose(x)
	return c
}

func (a *abstract) write(x *leaf, level int, own bool, l int, data []byte) *leaf {
	own = x == nil || own && x.refs == 1
	if level == 3 {
		if x == nil || !own {
			a.lose(x)
			x = &leaf{level: 3, refs: 1}
		}
		x.data = data
		return x
	}
	switch {
	case x == nil:
		x = &leaf{level: level, refs: 1, kids: map[int]*leaf{}}
	case !own:
		x = a.copied(x)
	}
	x.kids[kid(level, l)] = a.write(x.kids[kid(level, l)], level+1, own, l, data)
	return x
}

func (a *abstract) drop(x *leaf, first int, own bool, from int, to int) *leaf {
	in, out := x.parted(first, from, to)
	if in == 0 {
		return x
	}
	if out == 0 {
		a.lose(x)
		return nil
	}
	own = own && x.refs == 1
	if !own {
		x = a.copied(x)
	}
	for i, k := range x.kids {
		x.kids[i] = a.drop(k, first+i*spans(x.level), own, from, to)
		if x.kids[i] == nil {
			delete(x.kids, i)
		}
	}
	return x
}

// cost is the chapter's, of an operation that is not refused.
func (a *abstract) cost(o api.Op) int {
	v := a.named(o.Name)
	switch o.Kind {
	case api.OpWrite:
		return v.map_.need(0, true, o.From)
	case api.OpDiscard:
		return v.map_.needDrop(0, true, o.From, o.To)
	case api.OpResize:
		return v.map_.needDrop(0, true, o.To, 262144)
	case api.OpFill:
		c := a.cloned()
		v, n := c.named(o.Name), 0
		for l := o.From; l < o.To; l++ {
			if v.map_.mapped(0, map[int]*leaf{})[l] == nil {
				n += v.map_.need(0, true, l)
				v.map_ = c.write(v.map_, 0, true, l, nil)
			}
		}
		return n
	}
	return 0
}

// uses tells which fields a kind uses: Name, Other, From, To, Data.
func uses(kind int) string {
	return []string{"", "NT", "NO", "NO", "NT", "NO", "N", "NO", "NFD", "NFT", "NFT", "T"}[kind]
}

func isName(name string) bool {
	const first, all = "abcdefghijklmnopqrstuvwxyz~", "abcdefghijklmnopqrstuvwxyz~0123456789.-_@"
	return len(name) >= 1 && len(name) <= 31 && strings.Contains(first, name[:1]) && strings.Trim(name, all) == ""
}

// isOne tells whether a kind is one of some.
func isOne(kind int, kinds ...int) bool { return slices.Contains(kinds, kind) }

// holds tells which of the chapter's errors hold of an operation, each by its number in the list, 1 to 13. Where Kind or
// the names may not be, no more is asked.
func (a *abstract) holds(o api.Op) map[int]api.Errno {
	h := map[int]api.Errno{}
	set := func(n int, e api.Errno, does bool) {
		if does && h[n] == api.OK {
			h[n] = e
		}
	}
	if o.Kind < 1 || o.Kind > 11 {
		set(1, api.ErrActKind, true)
		return h
	}
	u := uses(o.Kind)
	has := func(field string) bool { return strings.Contains(u, field) }
	set(2, api.ErrActForm, !has("N") && o.Name != "" || !has("O") && o.Other != "" || !has("F") && o.From != 0 || !has("T") && o.To != 0 || !has("D") && len(o.Data) > 0)
	set(3, api.ErrActName, has("N") && !isName(o.Name) || has("O") && !isName(o.Other))
	set(4, api.ErrActData, has("D") && len(o.Data) != 512)
	k, v, w := o.Kind, a.named(o.Name), a.named(o.Other)
	set(5, api.ErrActUnknown, v == nil && isOne(k, 4, 5, 6, 7, 8, 9, 10) || w == nil && isOne(k, 2, 3, 7))
	set(6, api.ErrActTaken, v != nil && isOne(k, 1, 2, 3) || w != nil && k == 5)
	set(7, api.ErrActSize, isOne(k, 1, 4) && (o.To < 1 || o.To > 262144) || k == 11 && (o.To <= a.capacity || o.To > 262144))
	size := 0
	if v != nil {
		size = v.Size
	}
	set(8, api.ErrActRange, k == 8 && (o.From < 0 || o.From >= size) || isOne(k, 9, 10) && (o.From < 0 || o.To > size || o.From > o.To) || k == 10 && o.To-o.From > 32)
	set(9, api.ErrActPartial, v != nil && v.Partial && isOne(k, 4, 5, 7, 8, 9, 10) || w != nil && w.Partial && isOne(k, 2, 3, 7))
	set(10, api.ErrActChildren, k == 6 && v != nil && slices.ContainsFunc(a.volumes, func(c *volume) bool { return c.Origin == v.ID }))
	set(11, api.ErrCatalogFull, isOne(k, 1, 2, 3) && len(a.volumes) == 64)
	set(11, api.ErrCatalogIDs, isOne(k, 1, 2, 3) && a.next > 1<<30)
	set(12, api.ErrPoolSize, k == 11 && o.To > a.bound)
	if len(h) == 0 {
		set(13, api.ErrSpaceFull, a.cost(o) > a.free())
	}
	return h
}

// answer is the first error that holds.
func (a *abstract) answer(o api.Op) api.Errno {
	h := a.holds(o)
	for n := 1; n <= 13; n++ {
		if h[n] != api.OK {
			return h[n]
		}
	}
	return api.OK
}

// add brings a new volume.
func (a *abstract) add(v volume) {
	v.ID = a.next
	a.next++
	if v.map_ != nil {
		v.map_.refs++
	}
	a.volumes = append(a.volumes, &v)
}

// do does an operation that is not refused, as the chapter's table says.
func (a *abstract) do(o api.Op) {
	v, w := a.named(o.Name), a.named(o.Other)
	switch o.Kind {
	case api.OpCreate:
		a.add(volume{Entry: api.Entry{Name: o.Name, Size: o.To}})
	case api.OpSnap:
		a.add(volume{api.Entry{Name: o.Name, Size: w.Size, Origin: w.ID, Kind: 1}, w.map_})
	case api.OpClone:
		a.add(volume{api.Entry{Name: o.Name, Size: w.Size, Origin: w.ID}, w.map_})
	case api.OpResize:
		v.Size, v.map_ = o.To, a.drop(v.map_, 0, true, o.To, 262144)
	case api.OpRename:
		v.Name = o.Other
	case api.OpDelete:
		a.lose(v.map_)
		a.volumes = slices.DeleteFunc(a.volumes, func(x *volume) bool { return x == v })
	case api.OpRestore:
		if w.map_ != nil {
			w.map_.refs++
		}
		a.lose(v.map_)
		v.Size, v.map_ = w.Size, w.map_
	case api.OpWrite:
		v.map_ = a.write(v.map_, 0, true, o.From, bytes.Clone(o.Data))
	case api.OpDiscard:
		v.map_ = a.drop(v.map_, 0, true, o.From, o.To)
	case api.OpFill:
		for l := o.From; l < o.To; l++ {
			if v.map_.mapped(0, map[int]*leaf{})[l] == nil {
				v.map_ = a.write(v.map_, 0, true, l, full(0))
			}
		}
	case api.OpExtend:
		a.capacity = o.To
	}
}

// view is what a view of the pool shows.
func (a *abstract) view() api.View {
	out := api.View{Capacity: a.capacity, Free: a.free(), Next: a.next}
	for _, v := range a.volumes {
		shown := api.Volume{Name: v.Name, ID: v.ID, Size: v.Size, Origin: v.Origin, Kind: v.Kind, Partial: v.Partial}
		var at []int
		for l := range v.map_.mapped(0, map[int]*leaf{}) {
			at = append(at, l)
		}
		slices.Sort(at)
		for _, l := range at {
			if n := len(shown.Mapped); n > 0 && shown.Mapped[n-1].To == l {
				shown.Mapped[n-1].To++
			} else {
				shown.Mapped = append(shown.Mapped, api.Range{From: l, To: l + 1})
			}
		}
		out.Volumes = append(out.Volumes, shown)
	}
	slices.SortFunc(out.Volumes, func(x, y api.Volume) int { return strings.Compare(x.Name, y.Name) })
	return out
}

// world is a pool, and what it shall be.
type world struct {
	*bench
	*abstract
}

func newWorld(t *testing.T, capacity int, more int) *world {
	t.Helper()
	return &world{made(t, capacity, more), &abstract{capacity: capacity, bound: capacity + more, next: 1}}
}

// step asks Cost, does an operation, and holds both against the model.
func (w *world) step(o api.Op) {
	w.t.Helper()
	want := w.answer(o)
	n, e := act.Cost(w.p, w.x, o)
	switch {
	case want != api.OK && want != api.ErrSpaceFull:
		if n != 0 || e != want {
			w.t.Errorf("Cost(%s) = %d, %d; want 0, %d", told(o), n, e, want)
		}
	case n != w.cost(o) || e != api.OK:
		w.t.Errorf("Cost(%s) = %d, %d; want %d", told(o), n, e, w.cost(o))
	}
	before := w.counts()
	if e := act.Do(w.p, w.x, o); e != want {
		w.t.Fatalf("Do(%s) = %d; want %d", told(o), e, want)
	}
	if want == api.OK {
		w.abstract.do(o)
	} else {
		n = 0
	}
	if taken := newly(before, w.counts()); taken != n {
		w.t.Errorf("Do(%s) = %d takes %d pool blocks; its cost is %d", told(o), want, taken, n)
	}
}

// newly tells how many pool blocks have references, and had none.
func newly(before []int, after []int) int {
	n := 0
	for block, refs := range after {
		if refs > 0 && (block >= len(before) || before[block] == 0) {
			n++
		}
	}
	return n
}

// checkAll holds all that is told against the model: the view, what all names read, and how many pool blocks are taken.
func (w *world) checkAll() {
	w.t.Helper()
	if got, want := fmt.Sprint(w.bench.view()), fmt.Sprint(w.abstract.view()); got != want {
		w.t.Fatalf("the view is\n%s; want\n%s", got, want)
	}
	w.checkFree(w.abstract.free())
	for _, v := range w.volumes {
		if v.Partial {
			w.checkNoRead(v.Name, 0, api.ErrActPartial)
			continue
		}
		found := v.map_.mapped(0, map[int]*leaf{})
		for l, x := range found {
			if !bytes.Equal(w.read(v.Name, l), x.data) {
				w.t.Errorf("Read(%q, %d) gives other bytes", v.Name, l)
			}
		}
		for _, l := range []int{0, 1, 63, 64, v.Size / 2, v.Size - 1} {
			if l < v.Size && found[l] == nil {
				w.checkRead(v.Name, l, 0)
			}
		}
		w.checkNoRead(v.Name, v.Size, api.ErrActRange)
	}
	if n := newly(nil, w.counts()); n != len(w.things()) {
		w.t.Errorf("%d pool blocks have references; want %d", n, len(w.things()))
	}
}

// pick gives one of some, by a byte.
func pick[T any](by byte, of ...T) T { return of[int(by)%len(of)] }

// opOf gives an operation by some bytes: most are such as may be done, some are not.
func (w *world) opOf(r []byte) api.Op {
	name := func(by byte) string { return pick(by, "a", "b", "c", "d", "~e", "f.1", "a", "b") }
	place := func(x byte, y byte) int {
		return pick(x, 0, 64, 4096, 8128, 130, 0) + pick(y, 0, 1, 2, 5, 31, 62, 63)
	}
	o := api.Op{Name: name(r[1])}
	from := place(r[2], r[3])
	switch n := r[0] % 32; {
	case n < 3:
		o.Kind, o.To = api.OpCreate, pick(r[2], 1, 40, 100, 5000, 9000, 262144, 0, 262145)
	case n < 8:
		o.Kind, o.Other = int(pick(r[2], api.OpSnap, api.OpClone)), name(r[3])
	case n < 10:
		o.Kind, o.To = api.OpResize, pick(r[2], from+1, 100, 5000, 9000, 262144, 0, 262145)
	case n < 11:
		o.Kind, o.Other = api.OpRename, name(r[2])
	case n < 13:
		o.Kind = api.OpDelete
	case n < 15:
		o.Kind, o.Other = api.OpRestore, name(r[2])
	case n < 22:
		o.Kind, o.From, o.Data = api.OpWrite, from, noise(512, uint32(r[4])<<8|uint32(r[5]))
	case n < 26:
		o.Kind, o.From, o.To = api.OpDiscard, from, from+pick(r[4], 0, 1, 2, 64, 100, 4096, 8000)
	case n < 30:
		o.Kind, o.From, o.To = api.OpFill, from, from+int(r[4])%34
	case n < 31:
		o.Kind, o.Name, o.To = api.OpExtend, "", w.capacity+int(r[4])%9-1
	default:
		o = api.Op{Kind: int(r[2]) % 14, Name: name(r[3]), Other: pick(r[4], "", "a", "B"), From: int(r[5]) % 2, To: int(r[4]) % 3}
	}
	return o
}

// Operations in turns, in transactions that are committed or given up, with marks that are gone back to, and pools that are
// opened anew.
func TestP10_4OperationsInTurns(t *testing.T) {
	for seed, capacity := range []int{5, 20, 40, 60, 100, 150, 250, 400} {
		w := newWorld(t, capacity, 30)
		script := noise(8*220, uint32(seed+1))
		saved, marked := w.cloned(), w.cloned()
		mark := w.mark()
		for n := 0; n < len(script) && !t.Failed(); n += 8 {
			r := script[n:]
			w.step(w.opOf(r))
			w.checkAll()
			switch r[6] % 12 {
			case 0, 1, 2:
				w.commit()
				w.committed()
				if r[7]%3 == 0 {
					*w.bench = *found(t, w.d)
				}
				saved = w.cloned()
				mark, marked = w.mark(), w.cloned()
			case 3:
				w.abort()
				w.abstract = saved.cloned()
				mark, marked = w.mark(), w.cloned()
			case 4:
				w.back(mark)
				w.abstract = marked.cloned()
			case 5:
				mark, marked = w.mark(), w.cloned()
			}
			w.checkAll()
		}
		if t.Failed() {
			t.Fatalf("the pool was of %d blocks", capacity)
		}
	}
}
