package vol_test

import (
	"bytes"
	"fmt"
	"maps"
	"slices"
	"strings"
	"testing"

	"cistern/api"
	"cistern/vol"
)

// leaf is a thing of the model: a node (level 0 to 2) or a data block (level 3), as the document tells of it.
type leaf struct {
	level int
	refs  int
	kids  map[int]*leaf
	data  []byte
}

// span tells how many logical blocks an entry of a node of that level stands for.
func span(level int) int { return []int{4096, 64, 1}[level] }

// kid tells which entry of a node of that level leads on to l.
func kid(level int, l int) int { return l / span(level) % 64 }

// blocks gives the data blocks of a thing, by their logical blocks.
func (x *leaf) blocks() map[int]*leaf {
	found := map[int]*leaf{}
	x.gather(0, found)
	return found
}

func (x *leaf) gather(first int, found map[int]*leaf) {
	if x == nil {
		return
	}
	if x.level == 3 {
		found[first] = x
	}
	for i, k := range x.kids {
		k.gather(first+i*span(x.level), found)
	}
}

// reach goes through all things that hang on one, and itself.
func (x *leaf) reach(found map[*leaf]bool) {
	if x == nil || found[x] {
		return
	}
	found[x] = true
	for _, k := range x.kids {
		k.reach(found)
	}
}

// parted tells whether some of the mapped blocks lie in a range, and whether some do not.
func (x *leaf) parted(first int, from int, to int) (bool, bool) {
	found := map[int]*leaf{}
	x.gather(first, found)
	in, out := false, false
	for l := range found {
		if l >= from && l < to {
			in = true
		} else {
			out = true
		}
	}
	return in, out
}

// volume is one of the model.
type volume struct {
	api.Entry
	root *leaf
}

// abstract is the pool of chapter 10, behind each operation.
type abstract struct {
	capacity int
	bound    int
	next     int
	besides  int  // pool blocks that no volume reaches
	busy     bool // a program is running
	volumes  []*volume
}

func (a *abstract) free() int {
	found := map[*leaf]bool{}
	for _, v := range a.volumes {
		v.root.reach(found)
	}
	return a.capacity - len(found) - a.besides
}

func (a *abstract) named(name string) *volume {
	for _, v := range a.volumes {
		if v.Name == name {
			return v
		}
	}
	return nil
}

// lose takes a reference.
func (x *leaf) lose() {
	if x == nil {
		return
	}
	if x.refs--; x.refs == 0 {
		for _, k := range x.kids {
			k.lose()
		}
	}
}

// copied gives a copy of a node that takes its place.
func (x *leaf) copied() *leaf {
	c := &leaf{level: x.level, refs: 1, kids: map[int]*leaf{}}
	for i, k := range x.kids {
		c.kids[i] = k
		k.refs++
	}
	x.lose()
	return c
}

// written gives what takes the place of a thing when l is written, and how many new pool blocks that takes.
func (x *leaf) written(level int, above bool, l int, data []byte) (*leaf, int) {
	own, taken := above && x != nil && x.refs == 1, 0
	if !own {
		taken = 1
	}
	if level == 3 {
		if !own {
			x.lose()
			x = &leaf{level: 3, refs: 1}
		}
		x.data = data
		return x, taken
	}
	switch {
	case x == nil:
		x = &leaf{level: level, refs: 1, kids: map[int]*leaf{}}
		// What hangs on a node that is new is its own, and nothing hangs on it.
		own = true
	case !own:
		x = x.copied()
	}
	next, more := x.kids[kid(level, l)].written(level+1, own, l, data)
	x.kids[kid(level, l)] = next
	return x, taken + more
}

// dropped gives what takes the place of a thing when a range goes, and how many new pool blocks that takes.
func (x *leaf) dropped(first int, above bool, from int, to int) (*leaf, int) {
	in, out := x.parted(first, from, to)
	if !in {
		return x, 0
	}
	if !out {
		x.lose()
		return nil, 0
	}
	own, taken := above && x.refs == 1, 0
	if !own {
		x, taken = x.copied(), 1
	}
	for i, k := range x.kids {
		next, more := k.dropped(first+i*span(x.level), own, from, to)
		if x.kids[i] = next; next == nil {
			delete(x.kids, i)
		}
		taken += more
	}
	return x, taken
}

// filled gives what takes the place of a map when all of a range is mapped, and how many new pool blocks that takes.
func (x *leaf) filled(from int, to int) (*leaf, int) {
	there, taken := x.blocks(), 0
	for l := from; l < to; l++ {
		if there[l] == nil {
			next, more := x.written(0, true, l, full(0))
			x, taken = next, taken+more
		}
	}
	return x, taken
}

// cost is the chapter's, of an operation that is not refused. It is tried in a pool of its own.
func (a *abstract) cost(o api.Op) int {
	c := a.cloned()
	return c.do(o)
}

// cloned gives a pool that shares nothing with this one.
func (a *abstract) cloned() *abstract {
	seen := map[*leaf]*leaf{}
	var copyOf func(x *leaf) *leaf
	copyOf = func(x *leaf) *leaf {
		if x == nil || seen[x] != nil {
			return seen[x]
		}
		c := &leaf{level: x.level, refs: x.refs, kids: map[int]*leaf{}, data: x.data}
		seen[x] = c
		for i, k := range x.kids {
			c.kids[i] = copyOf(k)
		}
		return c
	}
	out := *a
	out.volumes = nil
	for _, v := range a.volumes {
		out.volumes = append(out.volumes, &volume{v.Entry, copyOf(v.root)})
	}
	return &out
}

// do does an operation that is not refused, as the chapter's table says, and tells how many pool blocks it has taken.
func (a *abstract) do(o api.Op) int {
	v, w, taken := a.named(o.Name), a.named(o.Other), 0
	switch o.Kind {
	case api.OpCreate:
		a.add(volume{Entry: api.Entry{Name: o.Name, Size: o.To}})
	case api.OpSnap:
		a.add(volume{api.Entry{Name: o.Name, Size: w.Size, Origin: w.ID, Kind: 1}, w.root})
	case api.OpClone:
		a.add(volume{api.Entry{Name: o.Name, Size: w.Size, Origin: w.ID}, w.root})
	case api.OpResize:
		v.Size = o.To
		v.root, taken = v.root.dropped(0, true, o.To, 262144)
	case api.OpRename:
		v.Name = o.Other
	case api.OpDelete:
		v.root.lose()
		a.volumes = slices.DeleteFunc(a.volumes, func(x *volume) bool { return x == v })
	case api.OpRestore:
		w.root.share()
		v.root.lose()
		v.Size, v.root = w.Size, w.root
	case api.OpWrite:
		v.root, taken = v.root.written(0, true, o.From, bytes.Clone(o.Data))
	case api.OpDiscard:
		v.root, taken = v.root.dropped(0, true, o.From, o.To)
	case api.OpFill:
		v.root, taken = v.root.filled(o.From, o.To)
	case api.OpExtend:
		a.capacity = o.To
	}
	return taken
}

func (x *leaf) share() {
	if x != nil {
		x.refs++
	}
}

// add brings a new volume.
func (a *abstract) add(v volume) {
	v.ID = a.next
	a.next++
	v.root.share()
	a.volumes = append(a.volumes, &v)
}

// uses tells which fields a kind uses: Name, Other, From, To, Data.
func uses(kind int) string {
	return []string{"", "NT", "NO", "NO", "NT", "NO", "N", "NO", "NFD", "NFT", "NFT", "T"}[kind]
}

func isName(name string) bool {
	const first, all = "abcdefghijklmnopqrstuvwxyz~", "abcdefghijklmnopqrstuvwxyz~0123456789.-_@"
	return len(name) >= 1 && len(name) <= 31 && strings.Contains(first, name[:1]) && strings.Trim(name, all) == ""
}

// answer is the first error that holds of an operation.
func (a *abstract) answer(o api.Op) api.Errno {
	if a.busy {
		return api.ErrVolBusy
	}
	if o.Kind < 1 || o.Kind > 11 {
		return api.ErrActKind
	}
	has := func(field string) bool { return strings.Contains(uses(o.Kind), field) }
	is := func(kinds ...int) bool { return slices.Contains(kinds, o.Kind) }
	v, w, size := a.named(o.Name), a.named(o.Other), 0
	if v != nil {
		size = v.Size
	}
	switch {
	case !has("N") && o.Name != "", !has("O") && o.Other != "", !has("F") && o.From != 0, !has("T") && o.To != 0, !has("D") && len(o.Data) > 0:
		return api.ErrActForm
	case has("N") && !isName(o.Name), has("O") && !isName(o.Other):
		return api.ErrActName
	case has("D") && len(o.Data) != 512:
		return api.ErrActData
	case v == nil && is(4, 5, 6, 7, 8, 9, 10), w == nil && is(2, 3, 7):
		return api.ErrActUnknown
	case v != nil && is(1, 2, 3), w != nil && is(5):
		return api.ErrActTaken
	case is(1, 4) && (o.To < 1 || o.To > 262144), is(11) && (o.To <= a.capacity || o.To > 262144):
		return api.ErrActSize
	case is(8) && (o.From < 0 || o.From >= size), is(9, 10) && (o.From < 0 || o.To > size || o.From > o.To), is(10) && o.To-o.From > 32:
		return api.ErrActRange
	case v != nil && v.Partial && is(4, 5, 7, 8, 9, 10), w != nil && w.Partial && is(2, 3, 7):
		return api.ErrActPartial
	case is(6) && slices.ContainsFunc(a.volumes, func(c *volume) bool { return c.Origin == v.ID }):
		return api.ErrActChildren
	case is(1, 2, 3) && len(a.volumes) == 64:
		return api.ErrCatalogFull
	case is(1, 2, 3) && a.next > 1<<30:
		return api.ErrCatalogIDs
	case is(11) && o.To > a.bound:
		return api.ErrPoolSize
	case a.cost(o) > a.free():
		return api.ErrSpaceFull
	}
	return api.OK
}

// view is what a view of the pool shows.
func (a *abstract) view() api.View {
	out := api.View{Capacity: a.capacity, Free: a.free(), Next: a.next}
	for _, v := range a.volumes {
		shown := api.Volume{Name: v.Name, ID: v.ID, Size: v.Size, Origin: v.Origin, Kind: v.Kind, Partial: v.Partial}
		for _, l := range slices.Sorted(maps.Keys(v.root.blocks())) {
			if n := len(shown.Mapped); n > 0 && shown.Mapped[n-1].To == l {
				shown.Mapped[n-1].To++
			} else {
				shown.Mapped = append(shown.Mapped, api.Range{From: l, To: l + 1})
			}
		}
		out.Volumes = append(out.Volumes, shown)
	}
	slices.SortFunc(out.Volumes, func(x, y api.Volume) int { return strings.Compare(x.Name, y.Name) })
	return out
}

// world is a pool, and what it shall be.
type world struct {
	*bench
	*abstract
	met map[api.Errno]int // which answers there were, by how often
}

func newWorld(t *testing.T, capacity int, more int) *world {
	t.Helper()
	return &world{made(t, capacity, more), &abstract{capacity: capacity, bound: capacity + more, next: 1}, map[api.Errno]int{}}
}

// step does an operation, and holds its answer against the model; where it is refused, that it changes nothing.
func (w *world) step(o api.Op) {
	w.t.Helper()
	want := w.answer(o)
	w.met[want]++
	if want != api.OK {
		w.checkRefused(o, want)
		return
	}
	w.check(o, want)
	w.abstract.do(o)
}

// checkAll holds all that is told against the model: the view, what is mapped, and what all names read.
func (w *world) checkAll() {
	w.t.Helper()
	want := w.abstract.view()
	if got := fmt.Sprint(w.bench.view()); got != fmt.Sprint(want) {
		w.t.Fatalf("the view is\n%s; want\n%v", got, want)
	}
	for _, v := range want.Volumes {
		w.checkMapped(v.Name, v.Mapped...)
		w.checkReads(v.Name)
	}
}

// checkReads holds what a name reads against the model: all that is mapped, and the edges.
func (w *world) checkReads(name string) {
	w.t.Helper()
	v := w.named(name)
	w.checkNoRead(name, -1, api.ErrActRange)
	w.checkNoRead(name, v.Size, api.ErrActRange)
	if v.Partial {
		w.checkNoRead(name, 0, api.ErrActPartial)
		w.checkNoRead(name, v.Size-1, api.ErrActPartial)
		return
	}
	there := v.root.blocks()
	for l, x := range there {
		if data, e := vol.Read(w.p, name, l); !bytes.Equal(data, x.data) || e != api.OK {
			w.t.Errorf("Read(%q, %d) gives other bytes, %d", name, l, e)
		}
	}
	for _, l := range []int{0, 1, 63, 64, 4095, v.Size / 2, v.Size - 1} {
		if l < v.Size && there[l] == nil {
			w.checkRead(name, l, 0)
		}
	}
}

// pick gives one of some, by a byte.
func pick[T any](by byte, of ...T) T { return of[int(by)%len(of)] }

// opOf gives an operation by some bytes: most are such as may be done, some are not.
func (w *world) opOf(r []byte) api.Op {
	name := func(by byte) string { return pick(by, "a", "b", "c", "d", "~e", "f.1", "a", "b") }
	from := pick(r[2], 0, 64, 4096, 8128, 130, 0) + pick(r[3], 0, 1, 2, 5, 31, 62, 63)
	o := api.Op{Name: name(r[1])}
	switch n := r[0] % 32; {
	case n < 3:
		o.Kind, o.To = api.OpCreate, pick(r[2], 1, 40, 100, 5000, 9000, 262144, 0, 262145)
	case n < 8:
		o.Kind, o.Other = pick(r[2], api.OpSnap, api.OpClone), name(r[3])
	case n < 10:
		o.Kind, o.To = api.OpResize, pick(r[2], from+1, 100, 5000, 9000, 262144, 0, 262145)
	case n < 11:
		o.Kind, o.Other = api.OpRename, name(r[2])
	case n < 13:
		o.Kind = api.OpDelete
	case n < 15:
		o.Kind, o.Other = api.OpRestore, name(r[2])
	case n < 22:
		o.Kind, o.From, o.Data = api.OpWrite, from, noise(512, uint32(r[4])<<8|uint32(r[5]))
	case n < 26:
		o.Kind, o.From, o.To = api.OpDiscard, from, from+pick(r[4], 0, 1, 2, 64, 100, 4096, 8000)
	case n < 30:
		o.Kind, o.From, o.To = api.OpFill, from, from+int(r[4])%34
	case n < 31:
		o.Kind, o.Name, o.To = api.OpExtend, "", pick(r[4], w.capacity, w.capacity+1, w.capacity+2, w.bound+1, 262145)
	default:
		o = w.oddOp(r)
	}
	return o
}

// oddOp gives an operation of any kind with any fields.
func (w *world) oddOp(r []byte) api.Op {
	return api.Op{
		Kind:  int(r[1]) % 13,
		Name:  pick(r[2], "a", "b", "c", "", "A", "zz"),
		Other: pick(r[3], "", "", "a", "b", "B", "zz"),
		From:  pick(r[4], 0, 0, 0, 1, -1, 9000),
		To:    pick(r[5], 0, 0, 5, 1, -1, 262145),
		Data:  pick(r[6], nil, nil, full(1), full(1)[:511]),
	}
}

// setPartial says of a volume that it is partial, in the model too.
func (w *world) setPartial(name string) {
	w.t.Helper()
	if v := w.named(name); v != nil {
		w.bench.setPartial(name)
		v.Partial = true
	}
}

// setSlot lays a slot, and tells the model whether a program is running.
func (w *world) setSlot(s api.Slot) {
	w.t.Helper()
	w.bench.setSlot(s)
	w.busy = s.State == api.SlotRunning
}

// Operations in turns, with volumes that become partial, programs that come and go, and pools that are opened anew: what is
// answered, and what Read, View and Mapped tell behind each of them.
func TestP11_6OperationsInTurns(t *testing.T) {
	met := map[api.Errno]int{}
	for seed, capacity := range []int{4, 5, 9, 20, 40, 60, 100, 150, 250, 400} {
		w := newWorld(t, capacity, 30)
		w.met = met
		script := noise(10*200, uint32(seed+1))
		for n := 0; n < len(script) && !t.Failed(); n += 10 {
			r := script[n:]
			w.step(w.opOf(r))
			w.checkAll()
			switch {
			case r[8] < 6:
				w.setPartial(pick(r[9], "a", "b", "c", "d"))
			case r[8] < 16:
				w.setSlot(slots()[int(r[9])%9].Slot)
			case r[8] < 40 && w.busy:
				w.setSlot(api.Slot{})
			case r[8] < 50:
				w.again()
				w.checkAll()
			case r[8] < 60:
				w.sync()
			}
		}
		if t.Failed() {
			t.Fatalf("the pool was of %d blocks", capacity)
		}
	}
	for _, e := range []api.Errno{
		api.OK, api.ErrVolBusy, api.ErrActKind, api.ErrActForm, api.ErrActUnknown, api.ErrActTaken, api.ErrActSize,
		api.ErrActRange, api.ErrActPartial, api.ErrActChildren, api.ErrPoolSize, api.ErrSpaceFull,
	} {
		if met[e] < 3 {
			t.Errorf("the answer %d was met %d times: too few for a test", e, met[e])
		}
	}
}

// Operations of every kind 0 to 12 with any fields.
func TestP11_6AnyFields(t *testing.T) {
	met := map[api.Errno]int{}
	for seed := range uint32(4) {
		w := newWorld(t, 40, 10)
		w.met = met
		for _, o := range []api.Op{create("a", 40), write("a", 0, full(1)), snap("b", "a"), create("c", 9), fill("c", 0, 9)} {
			w.step(o)
		}
		if seed%2 == 1 {
			w.setPartial("c")
		}
		script := noise(8*600, seed+9)
		for n := 0; n < len(script) && !t.Failed(); n += 8 {
			w.step(w.oddOp(script[n:]))
			if n%40 == 0 {
				w.checkAll()
			}
		}
		w.checkAll()
	}
	for _, e := range []api.Errno{api.OK, api.ErrActKind, api.ErrActForm, api.ErrActName, api.ErrActData, api.ErrActUnknown, api.ErrActTaken, api.ErrActRange} {
		if met[e] < 3 {
			t.Errorf("the answer %d was met %d times: too few for a test", e, met[e])
		}
	}
}

// As many volumes as there may be, and more: the model's answers.
func TestP11_6ManyVolumes(t *testing.T) {
	w := newWorld(t, 100, 0)
	w.step(create("v0", 100))
	for i := 1; i < 70; i++ {
		w.step(api.Op{Kind: pick(byte(i), api.OpSnap, api.OpClone), Name: fmt.Sprintf("v%d", i), Other: fmt.Sprintf("v%d", i/2)})
		w.step(write(fmt.Sprintf("v%d", i/2), i, full(byte(i))))
	}
	w.checkAll()
	if w.met[api.ErrCatalogFull] != 6 || w.met[api.ErrSpaceFull] == 0 {
		t.Errorf("the answers were %v", w.met)
	}
	for i := 63; i >= 0; i-- {
		w.step(remove(fmt.Sprintf("v%d", i)))
	}
	w.checkAll()
	w.checkFree(100)
}

// costly gives operations that take pool blocks, or may: with what is there ahead of them, and what they cost then.
func costly() []struct {
	ahead []api.Op
	o     api.Op
	cost  int
} {
	a := []api.Op{create("a", 9000), write("a", 0, full(1)), write("a", 1, full(2)), write("a", 64, full(3)), write("a", 4096, full(4))}
	with := func(more ...api.Op) []api.Op { return append(a[:len(a):len(a)], more...) }
	shared := with(snap("s", "a"))
	inPart := with(snap("s", "a"), write("a", 0, full(5)))
	return []struct {
		ahead []api.Op
		o     api.Op
		cost  int
	}{
		{a[:1], write("a", 0, full(9)), 4}, {a, write("a", 0, full(9)), 0}, {a, write("a", 2, full(9)), 1}, {a, write("a", 128, full(9)), 2},
		{a, write("a", 8192, full(9)), 3}, {shared, write("s", 8192, full(9)), 4}, {inPart, write("a", 1, full(9)), 1}, {inPart, write("a", 64, full(9)), 2},
		{inPart, write("a", 4096, full(9)), 3}, {inPart, write("s", 0, full(9)), 0}, {a[:1], fill("a", 0, 32), 35}, {a[:1], fill("a", 4080, 4112), 37},
		{a, fill("a", 0, 32), 30}, {a, fill("a", 0, 2), 0}, {shared, fill("a", 0, 32), 33}, {shared, fill("a", 62, 66), 7}, {inPart, fill("s", 62, 66), 4},
		{a, discard("a", 0, 1), 0}, {shared, discard("a", 0, 1), 3}, {shared, discard("a", 64, 65), 2}, {shared, discard("a", 4096, 9000), 1},
		{shared, discard("a", 0, 9000), 0}, {inPart, discard("a", 0, 4097), 0}, {a, resize("a", 1), 0}, {shared, resize("a", 1), 3},
		{shared, resize("a", 64), 2}, {shared, resize("a", 4096), 1}, {shared, resize("a", 4097), 0}, {shared, snap("n", "a"), 0}, {shared, clone("n", "s"), 0},
		{shared, restore("s", "a"), 0}, {inPart, restore("s", "a"), 0}, {a, create("n", 5), 0}, {a, rename("a", "n"), 0}, {shared, remove("s"), 0},
	}
}

// One fewer is free than the cost says: it is refused, and nothing is changed; just as many: it is done.
func TestP11_6JustEnoughRoom(t *testing.T) {
	for _, c := range costly() {
		w := newWorld(t, 100, 0)
		for _, o := range c.ahead {
			w.step(o)
		}
		if n := w.cost(c.o); n != c.cost {
			t.Fatalf("the model says %d for the cost of %s; want %d", n, told(c.o), c.cost)
		}
		last := w.take(max(c.cost-1, 0))
		w.besides = w.abstract.free() - max(c.cost-1, 0)
		if c.cost > 0 {
			w.checkRefused(c.o, api.ErrSpaceFull)
			w.checkAll()
			w.give(last)
			w.besides--
		}
		w.checkFree(c.cost)
		w.step(c.o)
		w.checkAll()
	}
}

// A pool that is full: what costs nothing is done, all else is refused.
func TestP11_6AFullPool(t *testing.T) {
	for _, o := range allKinds() {
		w := newWorld(t, 300, 36)
		for _, ahead := range []api.Op{
			create("a", 5000), write("a", 0, full(1)), write("a", 1, full(2)), write("a", 64, full(3)), write("a", 4999, full(4)), snap("s", "a"),
			write("a", 1, full(5)), clone("c", "a"), write("c", 70, full(6)), discard("c", 0, 1), create("e", 50), create("p", 20), write("p", 3, full(7)),
		} {
			w.step(ahead)
		}
		w.setPartial("p")
		w.take(0)
		w.besides = w.abstract.free()
		w.step(o)
		w.checkAll()
	}
}

// Pools in which there is no room even for one write.
func TestP11_6TheSmallestPools(t *testing.T) {
	for capacity := 1; capacity <= 9; capacity++ {
		w := newWorld(t, capacity, 1)
		for _, o := range []api.Op{
			create("a", 10), snap("s", "a"), write("a", 0, full(1)), write("s", 0, full(2)), write("a", 1, full(3)), clone("c", "a"), write("c", 1, full(4)),
			extend(capacity + 1), write("a", 1, full(5)), discard("a", 0, 1), remove("s"), write("c", 0, full(6)),
		} {
			w.step(o)
			w.checkAll()
		}
	}
}

// An operation over one name changes neither what any other name reads nor its size.
func TestP11_6OtherNames(t *testing.T) {
	for _, o := range allKinds() {
		b := used(t)
		b.do(create("c2", 9), restore("c2", "c"), write("c2", 1, full(77)), restore("e", "s"))
		before := b.others(o)
		b.do(o)
		if b.others(o) != before {
			t.Errorf("Do(%s) has changed what other names read", told(o))
		}
	}
}

// others tells what all names read that an operation does not change.
func (b *bench) others(o api.Op) string {
	b.t.Helper()
	out := bytes.Buffer{}
	for _, v := range b.view().Volumes {
		if v.Name == o.Name || o.Kind == api.OpRename && v.Name == o.Other {
			continue
		}
		fmt.Fprintln(&out, v)
		for l := 0; l < v.Size && !v.Partial; l += 1 + l/80*7 {
			out.Write(b.read(v.Name, l))
		}
	}
	return out.String()
}
