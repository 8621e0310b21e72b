package space_test

import (
	"slices"
	"testing"

	"cistern/api"
	"cistern/space"
	"cistern/txn"
)

// edges gives the rooms around each of the first steps of Blocks: where the counts fill just so many blocks, and one more is needed.
func edges(t *testing.T, steps int) []int {
	t.Helper()
	rooms := []int{1, 2}
	for room := 2; steps > 0; room++ {
		if blocksOf(t, room) < blocksOf(t, room+1) {
			rooms = append(rooms, room-1, room, room+1, room+2)
			steps--
		}
	}
	return rooms
}

// leap gives the first room of which the table takes more than one block more than that of the room below.
func leap(t *testing.T) int {
	t.Helper()
	for room := 2; room <= api.MaxCapacity; room++ {
		if blocksOf(t, room) > blocksOf(t, room-1)+1 {
			return room
		}
	}
	return api.MaxCapacity
}

// fillAndLetGo takes all of a table, lets some go, and takes these again.
func fillAndLetGo(t *testing.T, b *bench, room int) {
	t.Helper()
	p := b.space(home, room, room)
	b.do(func(x *txn.Txn) {
		checkAllocs(t, p, x, 1, room)
		checkAlloc(t, p, x, 0, api.ErrSpaceFull)
		checkFree(t, p, x, 0)
	})
	var gone []int
	x := b.begin()
	for n := room; n >= 1; n -= 1 + room/97 {
		checkUnref(t, p, x, n, 0, api.OK)
		gone = append(gone, n)
	}
	slices.Sort(gone)
	checkFree(t, p, x, 0)
	checkAlloc(t, p, x, 0, api.ErrSpaceFull)
	commit(t, x)
	b = b.again()
	p = b.open(home, room)
	x = b.begin()
	for i, n := range gone {
		checkFree(t, p, x, len(gone)-i)
		checkAlloc(t, p, x, n, api.OK)
	}
	checkAlloc(t, p, x, 0, api.ErrSpaceFull)
}

func TestP6_11TablesOfAllSizes(t *testing.T) {
	for _, room := range edges(t, 8) {
		fillAndLetGo(t, made(t, 200), room)
	}
}

func TestP6_11TablesOfManyBlocks(t *testing.T) {
	for _, room := range []int{leap(t) - 1, leap(t), leap(t) + 1} {
		b := laid(t, 1000, 500, 500)
		p := b.space(0, room, room-1)
		b.do(func(x *txn.Txn) { checkAllocs(t, p, x, 1, room-1) })
		b.do(func(x *txn.Txn) {
			checkAlloc(t, p, x, 0, api.ErrSpaceFull)
			checkUnref(t, p, x, room-1, 0, api.OK)
			checkGrow(t, p, x, room, api.OK)
			checkFree(t, p, x, 1)
			checkAlloc(t, p, x, room, api.OK)
		})
		b.do(func(x *txn.Txn) {
			checkFree(t, p, x, 1)
			checkAlloc(t, p, x, room-1, api.OK)
			checkUnref(t, p, x, room, 0, api.OK)
			checkFree(t, p, x, 0)
		})
	}
}

// In a pool of a quarter of a million blocks that is nearly full a free block is found, and the free ones are counted,
// by reading a small part of the table.
func TestP6_4NotAllCountsAreRead(t *testing.T) {
	const journalBlocks = 1300
	all := blocksOf(t, api.MaxCapacity)
	b := laid(t, journalBlocks+all, 0, journalBlocks)
	p := b.space(journalBlocks, api.MaxCapacity, api.MaxCapacity-1000)
	const taken = 200000
	reads := func() int {
		hits, misses, _ := b.c.Counts()
		return hits + misses
	}
	checkpoint := func() {
		if e := b.j.Checkpoint(); e != api.OK {
			t.Fatalf("Checkpoint() = %d", e)
		}
	}
	checkpoint()
	b.do(func(x *txn.Txn) {
		before := reads()
		checkAllocs(t, p, x, 1, 5)
		if n := reads() - before; n > all {
			t.Errorf("five times Alloc behind Format reads %d blocks of a table of %d", n, all)
		}
		checkAllocs(t, p, x, 6, taken)
	})
	checkpoint()
	x := b.begin()
	checkGrow(t, p, x, api.MaxCapacity, api.OK)
	for what, call := range map[string]func(){
		"Alloc": func() { p.Alloc(x) },
		"Free":  func() { p.Free(x) },
		"Ref":   func() { p.Ref(x, 7) },
		"Unref": func() { p.Unref(x, 100000) },
		"Count": func() { p.Count(x, taken) },
		"Size":  func() { p.Size(x) },
	} {
		before := reads()
		call()
		if n := reads() - before; n > all/10 {
			t.Errorf("%s reads %d blocks of a table of %d", what, n, all)
		}
	}
	before := reads()
	counts, _ := p.Counts(x)
	for i := range api.MaxCapacity {
		counts(i*77777%api.MaxCapacity + 1)
	}
	if n := reads() - before; n > all {
		t.Errorf("by Counts all counts are told with %d blocks read of a table of %d", n, all)
	}
}

func TestP6TwoTablesInTurns(t *testing.T) {
	b := made(t, 200)
	one := b.space(home, 1000, 500)
	two := b.space(home+blocksOf(t, 1000), 1000, 600)
	b.do(func(x *txn.Txn) {
		for n := 1; n <= 500; n++ {
			checkAlloc(t, one, x, n, api.OK)
			checkAlloc(t, two, x, n, api.OK)
		}
		checkUnref(t, one, x, 7, 0, api.OK)
		checkUnref(t, two, x, 8, 0, api.OK)
		checkAlloc(t, one, x, 7, api.OK)
		checkAlloc(t, two, x, 8, api.OK)
		checkAlloc(t, one, x, 0, api.ErrSpaceFull)
		checkFree(t, two, x, 100)
	})
	x := b.begin()
	checkUnref(t, one, x, 1, 0, api.OK)
	checkFormat(t, x, home, 1000, 10, api.OK)
	checkFree(t, one, x, 0)
	checkFree(t, two, x, 100)
	checkSize(t, two, x, 600)
	checkAlloc(t, two, x, 501, api.OK)
	abort(t, x)
	b.do(func(x *txn.Txn) {
		checkCount(t, one, x, 1, 1, api.OK)
		checkCount(t, two, x, 501, 0, api.OK)
	})
}

// model is a table as the document tells of it.
type model struct {
	room   int
	size   int
	counts map[int]int
}

func (m *model) copy() *model {
	if m == nil {
		return nil
	}
	counts := map[int]int{}
	for b, n := range m.counts {
		counts[b] = n
	}
	return &model{room: m.room, size: m.size, counts: counts}
}

// world is a store with places for tables, each with what stands there in the transaction and in what is committed.
type world struct {
	*bench
	x         *txn.Txn
	seen      map[int]*model
	committed map[int]*model
	marks     []map[int]*model
}

func copies(of map[int]*model) map[int]*model {
	out := map[int]*model{}
	for from, m := range of {
		out[from] = m.copy()
	}
	return out
}

func (w *world) freeBlocks(from int) []int {
	now, old := w.seen[from], w.committed[from]
	var free []int
	for b := 1; b <= now.size; b++ {
		was := 0
		if old != nil && old.room == now.room {
			was = old.counts[b]
		}
		if now.counts[b] == 0 && was == 0 {
			free = append(free, b)
		}
	}
	return free
}

// checkAll holds a table against its model.
func (w *world) checkAll(from int) {
	w.t.Helper()
	m := w.seen[from]
	if m == nil {
		return
	}
	p := w.open(from, m.room)
	checkSize(w.t, p, w.x, m.size)
	checkFree(w.t, p, w.x, len(w.freeBlocks(from)))
	for b := 1; b <= m.size; b++ {
		checkCount(w.t, p, w.x, b, m.counts[b], api.OK)
	}
}

func (w *world) alloc(p *space.Space, from int) {
	w.t.Helper()
	free := w.freeBlocks(from)
	checkFree(w.t, p, w.x, len(free))
	if len(free) == 0 {
		checkAlloc(w.t, p, w.x, 0, api.ErrSpaceFull)
		return
	}
	checkAlloc(w.t, p, w.x, free[0], api.OK)
	w.seen[from].counts[free[0]] = 1
}

func (w *world) ref(p *space.Space, m *model, b int) {
	w.t.Helper()
	count := m.counts[b]
	switch {
	case b < 1 || b > m.size:
		checkRef(w.t, p, w.x, b, api.ErrSpaceBlock)
	case count == 0:
		checkRef(w.t, p, w.x, b, api.ErrSpaceNone)
	case count == api.MaxRefs:
		checkRef(w.t, p, w.x, b, api.ErrSpaceRefs)
	default:
		checkRef(w.t, p, w.x, b, api.OK)
		m.counts[b] = count + 1
	}
}

func (w *world) unref(p *space.Space, m *model, b int) {
	w.t.Helper()
	count := m.counts[b]
	switch {
	case b < 1 || b > m.size:
		checkUnref(w.t, p, w.x, b, 0, api.ErrSpaceBlock)
	case count == 0:
		checkUnref(w.t, p, w.x, b, 0, api.ErrSpaceNone)
	default:
		checkUnref(w.t, p, w.x, b, count-1, api.OK)
		m.counts[b] = count - 1
	}
}

func (w *world) grow(p *space.Space, m *model, count int) {
	w.t.Helper()
	if count <= m.size || count > m.room {
		checkGrow(w.t, p, w.x, count, api.ErrSpaceCount)
		return
	}
	checkGrow(w.t, p, w.x, count, api.OK)
	m.size = count
}

func (w *world) format(from int, room int, count int) {
	w.t.Helper()
	checkFormat(w.t, w.x, from, room, count, api.OK)
	w.seen[from] = &model{room: room, size: count, counts: map[int]int{}}
}

// spoil writes over all that a table of any of the rooms has at that place.
func (w *world) spoil(from int, name byte) {
	w.t.Helper()
	for at := from; at < from+placeBlocks; at++ {
		if e := w.x.Write(at, full(name)); e != api.OK {
			w.t.Fatalf("Write(%d) = %d", at, e)
		}
	}
	w.seen[from] = nil
}

// end ends the transaction, and begins the next one: behind a power cut, now and then.
func (w *world) end(chance int) {
	w.t.Helper()
	if chance%3 == 0 {
		abort(w.t, w.x)
		w.seen = copies(w.committed)
	} else {
		commit(w.t, w.x)
		w.committed = copies(w.seen)
	}
	if chance%5 == 0 {
		w.bench = w.again()
	}
	w.x, w.marks = w.begin(), nil
	for from := range w.seen {
		w.checkAll(from)
	}
}

func (w *world) mark() {
	w.t.Helper()
	mark(w.t, w.x)
	w.marks = append(w.marks, copies(w.seen))
}

func (w *world) back(m int) {
	w.t.Helper()
	back(w.t, w.x, m)
	w.marks = w.marks[:m+1]
	w.seen = copies(w.marks[m])
}

// Where the worlds' tables may lie, how many blocks a place has, and of which rooms they are.
const placeBlocks = 6

func worldRooms() []int { return []int{3, 10, 11, 480, 481, 700, 1500} }

// step does one thing that the chances say.
func (w *world) step(chance []int) {
	w.t.Helper()
	from := home + placeBlocks*(chance[1]%2)
	rooms := worldRooms()
	switch kind := chance[0] % 100; {
	case kind < 4:
		w.end(chance[2])
	case kind < 8:
		w.mark()
	case kind < 12 && len(w.marks) > 0:
		w.back(chance[2] % len(w.marks))
	case kind < 14:
		w.spoil(from, byte(chance[2]))
	case kind < 18 || w.seen[from] == nil:
		room := rooms[chance[2]%len(rooms)]
		w.format(from, room, 1+chance[3]%room)
	default:
		w.call(from, kind, chance[2:])
	}
}

// call asks a table something. The pool blocks that it names are mostly low ones, so that they are met again.
func (w *world) call(from int, kind int, chance []int) {
	w.t.Helper()
	m := w.seen[from]
	p := w.open(from, m.room)
	b := chance[0] % (m.size + 2)
	if chance[1]%3 > 0 {
		b %= 5
	}
	switch {
	case kind < 50:
		for range 1 + chance[1]%4 {
			w.alloc(p, from)
		}
	case kind < 60:
		w.ref(p, m, b)
	case kind < 63:
		for range 250 {
			w.ref(p, m, b)
		}
	case kind < 90:
		w.unref(p, m, b)
	case kind < 94:
		w.grow(p, m, m.size+chance[1]%7-2)
	case kind < 96:
		w.grow(p, m, m.room)
	default:
		w.checkAll(from)
	}
}

// Mixed calls over two places, with tables of several rooms laid over one another, are held against a plain model.
func TestP6_11MixedCallsAgainstAModel(t *testing.T) {
	const steps = 2500
	for seed := range uint32(12) {
		w := &world{bench: made(t, home+2*placeBlocks), seen: map[int]*model{}, committed: map[int]*model{}}
		w.x = w.begin()
		chances := noise(8*steps, 77+seed)
		for i := range steps {
			c := chances[8*i : 8*i+8]
			w.step([]int{int(c[0])*256 + int(c[1]), int(c[2]), int(c[3])*256 + int(c[4]), int(c[5])*256 + int(c[6])})
			if t.Failed() {
				t.Fatalf("seed %d, step %d", seed, i)
			}
		}
	}
}
