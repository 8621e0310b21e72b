package space_test

import (
	"bytes"
	"math"
	"slices"
	"testing"

	"cistern/api"
	"cistern/cache"
	"cistern/disk"
	"cistern/journal"
	"cistern/space"
	"cistern/txn"
)

// Where the tables of most tests lie; the journal stands ahead of it.
const home = 100

// full gives a block that is one byte all through.
func full(name byte) []byte { return bytes.Repeat([]byte{name}, 512) }

// noise gives bytes that look like chance and are the same in each run.
func noise(size int, seed uint32) []byte {
	out := make([]byte, size)
	for i := range out {
		seed = seed*1664525 + 1013904223
		out[i] = byte(seed >> 24)
	}
	return out
}

// bench is a store, and what it stands on.
type bench struct {
	t      *testing.T
	d      *disk.Disk
	c      *cache.Cache
	j      *journal.Journal
	s      *txn.Store
	from   int // where its journal is, and how large
	blocks int
}

// made gives a store over a disk of zeros, with its journal ahead of home.
func made(t *testing.T, total int) *bench {
	t.Helper()
	return laid(t, total, 0, home)
}

// laid gives a store over a disk of zeros, with its journal there.
func laid(t *testing.T, total int, from int, blocks int) *bench {
	t.Helper()
	d, e := disk.New(total)
	if e != api.OK {
		t.Fatalf("disk.New(%d) = %d", total, e)
	}
	c, e := cache.New(d, 8)
	if e != api.OK {
		t.Fatalf("cache.New = %d", e)
	}
	if e := journal.Format(c, from, blocks); e != api.OK {
		t.Fatalf("journal.Format(c, %d, %d) = %d", from, blocks, e)
	}
	return opened(t, d, from, blocks)
}

// opened gives a store over the journal that is found there.
func opened(t *testing.T, d *disk.Disk, from int, blocks int) *bench {
	t.Helper()
	c, e := cache.New(d, 8)
	if e != api.OK {
		t.Fatalf("cache.New = %d", e)
	}
	j, e := journal.Open(c, from, blocks)
	if e != api.OK {
		t.Fatalf("journal.Open(c, %d, %d) = %d", from, blocks, e)
	}
	s, e := txn.Open(j)
	if e != api.OK {
		t.Fatalf("txn.Open = %d", e)
	}
	return &bench{t: t, d: d, c: c, j: j, s: s, from: from, blocks: blocks}
}

// again gives the store that is found on a disk that holds what this one is seen to hold.
func (b *bench) again() *bench {
	b.t.Helper()
	pending, e := b.d.Pending()
	if e != api.OK {
		b.t.Fatalf("Pending() = %d", e)
	}
	image, e := b.d.Crash(firstPlaces(len(pending)))
	if e != api.OK {
		b.t.Fatalf("Crash = %d", e)
	}
	d, e := disk.Open(image)
	if e != api.OK {
		b.t.Fatalf("disk.Open = %d", e)
	}
	return opened(b.t, d, b.from, b.blocks)
}

func firstPlaces(n int) []int {
	places := make([]int, n)
	for i := range places {
		places[i] = i
	}
	return places
}

func (b *bench) begin() *txn.Txn {
	b.t.Helper()
	x, e := b.s.Begin()
	if e != api.OK {
		b.t.Fatalf("Begin() = %d", e)
	}
	return x
}

// do does something in a transaction of its own.
func (b *bench) do(what func(x *txn.Txn)) {
	b.t.Helper()
	x := b.begin()
	what(x)
	commit(b.t, x)
}

// space gives the space of a table that is laid there and committed.
func (b *bench) space(from int, room int, count int) *space.Space {
	b.t.Helper()
	b.do(func(x *txn.Txn) { checkFormat(b.t, x, from, room, count, api.OK) })
	return b.open(from, room)
}

func (b *bench) open(from int, room int) *space.Space {
	b.t.Helper()
	p, e := space.Open(b.s, from, room)
	if p == nil || e != api.OK {
		b.t.Fatalf("Open(s, %d, %d) = a space: %v, %d", from, room, p != nil, e)
	}
	return p
}

// darken turns the power off.
func (b *bench) darken() {
	b.t.Helper()
	b.d.Fuse(0)
	if e := b.d.Flush(); e != api.ErrDiskOff {
		b.t.Fatalf("Flush() with a fuse of 0 = %d", e)
	}
}

func (b *bench) seq() int {
	b.t.Helper()
	n, e := b.j.Seq()
	if e != api.OK {
		b.t.Fatalf("Seq() = %d", e)
	}
	return n
}

func commit(t *testing.T, x *txn.Txn) {
	t.Helper()
	if e := x.Commit(); e != api.OK {
		t.Fatalf("Commit() = %d", e)
	}
}

func abort(t *testing.T, x *txn.Txn) {
	t.Helper()
	if e := x.Abort(); e != api.OK {
		t.Fatalf("Abort() = %d", e)
	}
}

func mark(t *testing.T, x *txn.Txn) int {
	t.Helper()
	m, e := x.Mark()
	if e != api.OK {
		t.Fatalf("Mark() = %d", e)
	}
	return m
}

func back(t *testing.T, x *txn.Txn, m int) {
	t.Helper()
	if e := x.Back(m); e != api.OK {
		t.Fatalf("Back(%d) = %d", m, e)
	}
}

func blocksOf(t *testing.T, room int) int {
	t.Helper()
	n, e := space.Blocks(room)
	if e != api.OK {
		t.Fatalf("Blocks(%d) = %d, %d", room, n, e)
	}
	return n
}

func checkFormat(t *testing.T, x *txn.Txn, from int, room int, count int, want api.Errno) {
	t.Helper()
	if e := space.Format(x, from, room, count); e != want {
		t.Errorf("Format(t, %d, %d, %d) = %d; want %d", from, room, count, e, want)
	}
}

func checkAlloc(t *testing.T, p *space.Space, x *txn.Txn, want int, wantErr api.Errno) {
	t.Helper()
	if got, e := p.Alloc(x); got != want || e != wantErr {
		t.Errorf("Alloc(t) = %d, %d; want %d, %d", got, e, want, wantErr)
	}
}

func checkLowest(t *testing.T, p *space.Space, x *txn.Txn, count int, want []int, wantErr api.Errno) {
	t.Helper()
	if got, e := p.Lowest(x, count); !slices.Equal(got, want) || e != wantErr {
		t.Errorf("Lowest(t, %d) = %v, %d; want %v, %d", count, got, e, want, wantErr)
	}
}

// checkAllocs takes the pool blocks from first to last, one behind the other.
func checkAllocs(t *testing.T, p *space.Space, x *txn.Txn, first int, last int) {
	t.Helper()
	for b := first; b <= last; b++ {
		if got, e := p.Alloc(x); got != b || e != api.OK {
			t.Fatalf("Alloc(t) = %d, %d; want %d", got, e, b)
		}
	}
}

func checkRef(t *testing.T, p *space.Space, x *txn.Txn, b int, want api.Errno) {
	t.Helper()
	if e := p.Ref(x, b); e != want {
		t.Errorf("Ref(t, %d) = %d; want %d", b, e, want)
	}
}

func checkUnref(t *testing.T, p *space.Space, x *txn.Txn, b int, want int, wantErr api.Errno) {
	t.Helper()
	if got, e := p.Unref(x, b); got != want || e != wantErr {
		t.Errorf("Unref(t, %d) = %d, %d; want %d, %d", b, got, e, want, wantErr)
	}
}

func checkCount(t *testing.T, p *space.Space, x *txn.Txn, b int, want int, wantErr api.Errno) {
	t.Helper()
	if got, e := p.Count(x, b); got != want || e != wantErr {
		t.Errorf("Count(t, %d) = %d, %d; want %d, %d", b, got, e, want, wantErr)
	}
	if got, e := countOf(p, x, b); got != want || e != wantErr {
		t.Errorf("by Counts(t) of %d = %d, %d; want %d, %d", b, got, e, want, wantErr)
	}
}

// countOf asks for the references of a block by Counts.
func countOf(p *space.Space, x *txn.Txn, b int) (int, api.Errno) {
	counts, e := p.Counts(x)
	if e != api.OK {
		return 0, e
	}
	return counts(b)
}

func checkFree(t *testing.T, p *space.Space, x *txn.Txn, want int) {
	t.Helper()
	if got, e := p.Free(x); got != want || e != api.OK {
		t.Errorf("Free(t) = %d, %d; want %d", got, e, want)
	}
}

func checkSize(t *testing.T, p *space.Space, x *txn.Txn, want int) {
	t.Helper()
	if got, e := p.Size(x); got != want || e != api.OK {
		t.Errorf("Size(t) = %d, %d; want %d", got, e, want)
	}
}

func checkGrow(t *testing.T, p *space.Space, x *txn.Txn, count int, want api.Errno) {
	t.Helper()
	if e := p.Grow(x, count); e != want {
		t.Errorf("Grow(t, %d) = %d; want %d", count, e, want)
	}
}

// checkRefused asks every method, with arguments that are good, bad and several times bad.
func checkRefused(t *testing.T, p *space.Space, x *txn.Txn, want api.Errno) {
	t.Helper()
	for _, b := range []int{math.MinInt, -1, 0, 1, 2, 4, 5, 10, 11, math.MaxInt} {
		checkRef(t, p, x, b, want)
		checkUnref(t, p, x, b, 0, want)
		checkCount(t, p, x, b, 0, want)
		checkGrow(t, p, x, b, want)
	}
	checkAlloc(t, p, x, 0, want)
	for _, n := range []int{math.MinInt, -1, 0, 1, 4, 5, math.MaxInt} {
		checkLowest(t, p, x, n, nil, want)
	}
	if counts, e := p.Counts(x); counts != nil || e != want {
		t.Errorf("Counts(t) = a call: %v, %d; want none, %d", counts != nil, e, want)
	}
	if n, e := p.Free(x); n != 0 || e != want {
		t.Errorf("Free(t) = %d, %d; want 0, %d", n, e, want)
	}
	if n, e := p.Size(x); n != 0 || e != want {
		t.Errorf("Size(t) = %d, %d; want 0, %d", n, e, want)
	}
}

func TestP6ExamplesInTheirOrder(t *testing.T) {
	b := made(t, 200)
	b.do(func(x *txn.Txn) {
		checkFormat(t, x, home, 10, 0, api.ErrSpaceCount)
		checkFormat(t, x, home, 10, 11, api.ErrSpaceCount)
		checkFormat(t, x, home, 262145, 1, api.ErrSpaceCount)
		checkFormat(t, x, home, 10, 4, api.OK)
	})
	p := b.open(home, 10)
	b.do(func(x *txn.Txn) {
		checkFree(t, p, x, 4)
		checkAllocs(t, p, x, 1, 2)
		checkFree(t, p, x, 2)
		checkCount(t, p, x, 2, 1, api.OK)
		checkCount(t, p, x, 5, 0, api.ErrSpaceBlock)
		checkCount(t, p, x, 0, 0, api.ErrSpaceBlock)
	})
	b.do(func(x *txn.Txn) {
		checkRef(t, p, x, 1, api.OK)
		checkUnref(t, p, x, 1, 1, api.OK)
		checkUnref(t, p, x, 2, 0, api.OK)
		checkFree(t, p, x, 2)
		checkAlloc(t, p, x, 3, api.OK)
		checkUnref(t, p, x, 2, 0, api.ErrSpaceNone)
	})
	b.do(func(x *txn.Txn) {
		checkAlloc(t, p, x, 2, api.OK)
		checkUnref(t, p, x, 2, 0, api.OK)
		checkAlloc(t, p, x, 2, api.OK)
	})
	b.do(func(x *txn.Txn) {
		checkSize(t, p, x, 4)
		checkGrow(t, p, x, 4, api.ErrSpaceCount)
		checkGrow(t, p, x, 11, api.ErrSpaceCount)
		checkGrow(t, p, x, 6, api.OK)
		checkFree(t, p, x, 3)
		checkAllocs(t, p, x, 4, 6)
	})
	b.do(func(x *txn.Txn) {
		checkAlloc(t, p, x, 0, api.ErrSpaceFull)
		checkRef(t, p, x, 7, api.ErrSpaceBlock)
		for range 249 {
			checkRef(t, p, x, 1, api.OK)
		}
		checkRef(t, p, x, 1, api.ErrSpaceRefs)
	})
	x := b.begin()
	checkUnref(t, p, x, 3, 0, api.OK)
	checkAlloc(t, p, x, 0, api.ErrSpaceFull)
	abort(t, x)
	b.do(func(x *txn.Txn) { checkUnref(t, p, x, 3, 0, api.OK) })
}

func TestP6_1Blocks(t *testing.T) {
	before := 1
	for room := 1; room <= 262144; room++ {
		n, e := space.Blocks(room)
		if e != api.OK || n < before || n > room/256+2 {
			t.Fatalf("Blocks(%d) = %d, %d; want %d to %d", room, n, e, before, room/256+2)
		}
		before = n
	}
	for _, room := range []int{1, 255, 256, 262143, 262144} {
		if blocksOf(t, room) != blocksOf(t, room) {
			t.Errorf("Blocks(%d) is not always the same", room)
		}
	}
	for _, room := range []int{math.MinInt, -262144, -1, 0, 262145, 1 << 32, math.MaxInt} {
		if n, e := space.Blocks(room); n != 0 || e != api.ErrSpaceCount {
			t.Errorf("Blocks(%d) = %d, %d; want 0, ErrSpaceCount", room, n, e)
		}
	}
}

func TestP6_2FormatIsRefused(t *testing.T) {
	b := made(t, 200)
	// From the state of the transaction on: each row has all the errors of the rows below it too.
	checkFormat(t, nil, -1, 0, 0, api.ErrNil)
	x := b.begin()
	checkFormat(t, x, -1, 0, 0, api.ErrSpaceCount)
	checkFormat(t, x, -1, 262145, 1, api.ErrSpaceCount)
	for _, c := range []struct{ room, count int }{
		{math.MinInt, 1}, {-1, -1}, {0, 0}, {0, 1}, {262145, 1}, {math.MaxInt, 1},
		{10, math.MinInt}, {10, -1}, {10, 0}, {10, 11}, {1, 2}, {262144, 262145}, {10, math.MaxInt},
	} {
		checkFormat(t, x, home, c.room, c.count, api.ErrSpaceCount)
		checkFormat(t, x, 0, c.room, c.count, api.ErrSpaceCount)
	}
	size := blocksOf(t, 1000)
	for _, from := range []int{math.MinInt, -1, 0, 1, home - 1, home - size + 1, 200 - size + 1, 199, 200, math.MaxInt - 1, math.MaxInt} {
		checkFormat(t, x, from, 1000, 1000, api.ErrJournalAt)
	}
	for at := home; at < 200; at++ {
		if data, e := x.Read(at); !bytes.Equal(data, full(0)) || e != api.OK {
			t.Errorf("a refused Format has written block %d", at)
		}
	}
	seq := b.seq()
	commit(t, x)
	if b.seq() != seq {
		t.Errorf("a transaction of refused Formats has writes")
	}
	checkFormat(t, x, -1, 0, 0, api.ErrTxnOver)
	checkFormat(t, x, home, 10, 4, api.ErrTxnOver)
	x = b.begin()
	abort(t, x)
	checkFormat(t, x, -1, 0, 0, api.ErrTxnOver)
	y := b.begin()
	b.darken()
	checkFormat(t, y, -1, 0, 0, api.ErrDiskOff)
	checkFormat(t, y, home, 10, 4, api.ErrDiskOff)
	checkFormat(t, x, home, 10, 4, api.ErrDiskOff)
}

// Format lays a table of zeros over whatever stands there, at the ends of what the journal has too, and writes nothing else.
func TestP6_2FormatOverAnything(t *testing.T) {
	const total, room = 120, 1000
	size := blocksOf(t, room)
	for what, fill := range map[string]func(at int) []byte{
		"zeros": func(int) []byte { return full(0) },
		"ones":  func(int) []byte { return full(1) },
		"255":   func(int) []byte { return full(255) },
		"noise": func(at int) []byte { return noise(512, uint32(at)) },
	} {
		for _, from := range []int{home, home + 3, total - size} {
			b := made(t, total)
			for at := home; at < total; at++ {
				b.do(func(x *txn.Txn) { x.Write(at, fill(at)) })
			}
			x := b.begin()
			checkFormat(t, x, from, room, 700, api.OK)
			p := b.open(from, room)
			checkTaken(t, p, x, 700, nil)
			checkAllocs(t, p, x, 1, 700)
			checkFormat(t, x, from, room, 700, api.OK)
			checkTaken(t, p, x, 700, nil)
			for at := home; at < total; at++ {
				data, e := x.Read(at)
				inside := at >= from && at < from+size
				if e != api.OK || !inside && !bytes.Equal(data, fill(at)) {
					t.Errorf("over %s: Format at %d has changed block %d", what, from, at)
				}
			}
			commit(t, x)
			b.do(func(x *txn.Txn) {
				checkTaken(t, p, x, 700, nil)
				checkFormat(t, x, from, room, 600, api.OK)
				checkAllocs(t, p, x, 1, 600)
			})
		}
	}
}

// checkTaken asks for each count: of those that are told, and of all others, which are 0; and that these are free.
func checkTaken(t *testing.T, p *space.Space, x *txn.Txn, size int, taken map[int]int) {
	t.Helper()
	checkSize(t, p, x, size)
	for b := 1; b <= size; b++ {
		if got, e := p.Count(x, b); got != taken[b] || e != api.OK {
			t.Errorf("Count(t, %d) = %d, %d; want %d", b, got, e, taken[b])
		}
	}
	checkCount(t, p, x, size+1, 0, api.ErrSpaceBlock)
	checkFree(t, p, x, size-len(taken))
}

func TestP6_2FormatOverAnOldTableOfTheSameRoom(t *testing.T) {
	b := made(t, 200)
	p := b.space(home, 1000, 900)
	b.do(func(x *txn.Txn) {
		checkAllocs(t, p, x, 1, 600)
		checkUnref(t, p, x, 2, 0, api.OK)
	})
	x := b.begin()
	checkAlloc(t, p, x, 2, api.OK)
	checkUnref(t, p, x, 3, 0, api.OK)
	m := mark(t, x)
	checkFormat(t, x, home, 1000, 10, api.OK)
	// What the old one counted is not free, whatever was done ahead of Format; what it did not is.
	checkCount(t, p, x, 1, 0, api.OK)
	checkFree(t, p, x, 1)
	checkAlloc(t, p, x, 2, api.OK)
	checkAlloc(t, p, x, 0, api.ErrSpaceFull)
	checkRef(t, p, x, 3, api.ErrSpaceNone)
	checkGrow(t, p, x, 599, api.OK)
	checkFree(t, p, x, 0)
	checkAlloc(t, p, x, 0, api.ErrSpaceFull)
	checkGrow(t, p, x, 1000, api.OK)
	checkFree(t, p, x, 400)
	checkAllocs(t, p, x, 601, 1000)
	checkAlloc(t, p, x, 0, api.ErrSpaceFull)
	checkFormat(t, x, home, 1000, 602, api.OK)
	checkFree(t, p, x, 3)
	checkAlloc(t, p, x, 2, api.OK)
	checkAllocs(t, p, x, 601, 602)
	back(t, x, m)
	checkSize(t, p, x, 900)
	checkFree(t, p, x, 300)
	checkFormat(t, x, home, 1000, 20, api.OK)
	commit(t, x)
	b.do(func(x *txn.Txn) {
		checkTaken(t, p, x, 20, nil)
		checkAllocs(t, p, x, 1, 20)
	})
}

// It makes no difference what the transaction itself has laid over the old table ahead of Format.
func TestP6_2FormatOverAnOldTableThatIsWrittenOver(t *testing.T) {
	for name := range 3 {
		b := made(t, 200)
		p := b.space(home, 1000, 900)
		b.do(func(x *txn.Txn) { checkAllocs(t, p, x, 1, 3) })
		x := b.begin()
		for i := range blocksOf(t, 1000) {
			x.Write(home+i, full(byte(name*127)))
		}
		checkFormat(t, x, home, 1000, 900, api.OK)
		checkFree(t, p, x, 897)
		// As many as the old table counts: so it cannot be told by numbers that it is another one.
		checkAllocs(t, p, x, 4, 6)
		checkFree(t, p, x, 894)
		checkAlloc(t, p, x, 7, api.OK)
		checkUnref(t, p, x, 7, 0, api.OK)
		checkAlloc(t, p, x, 7, api.OK)
		commit(t, x)
		b.do(func(x *txn.Txn) { checkTaken(t, p, x, 900, map[int]int{4: 1, 5: 1, 6: 1, 7: 1}) })
	}
}

func TestP6_2FormatOverATableOfAnotherRoom(t *testing.T) {
	for _, room := range []int{1000, 999, 1001, 300, 4000} {
		b := made(t, 200)
		p := b.space(home, 1000, 900)
		b.do(func(x *txn.Txn) { checkAllocs(t, p, x, 1, 600) })
		x := b.begin()
		checkFormat(t, x, home, room, 200, api.OK)
		p = b.open(home, room)
		if room == 1000 {
			checkFree(t, p, x, 0)
			checkAlloc(t, p, x, 0, api.ErrSpaceFull)
			continue
		}
		checkTaken(t, p, x, 200, nil)
		checkAllocs(t, p, x, 1, 100)
		checkFree(t, p, x, 100)
		commit(t, x)
		b.do(func(x *txn.Txn) {
			checkFree(t, p, x, 100)
			checkAllocs(t, p, x, 101, 200)
		})
	}
}

// Where another table was laid over the last block of one, that one stands there no more.
func TestP6_2FormatOverATableThatIsGoneInPart(t *testing.T) {
	b := made(t, 200)
	p := b.space(home, 1000, 900)
	b.do(func(x *txn.Txn) { checkAllocs(t, p, x, 1, 600) })
	b.space(home+blocksOf(t, 1000)-1, 1000, 900)
	x := b.begin()
	checkFormat(t, x, home, 1000, 900, api.OK)
	checkTaken(t, p, x, 900, nil)
	checkAllocs(t, p, x, 1, 900)
}

// overwritings are what a transaction may write over a table's blocks ahead of Format. That first is a block of the
// table as it was in an earlier life.
func overwritings(first []byte, pages int) []func(x *txn.Txn) {
	writes := []func(x *txn.Txn){
		func(*txn.Txn) {},
		func(x *txn.Txn) { x.Write(home, first) },
	}
	for _, name := range []byte{0, 255} {
		writes = append(writes,
			func(x *txn.Txn) { x.Write(home, full(name)) },
			func(x *txn.Txn) { x.Write(home+pages-1, full(name)) },
			func(x *txn.Txn) {
				for i := range pages {
					x.Write(home+i, full(name))
				}
			})
	}
	return writes
}

// A table that had all its pool blocks taken, and of which one block is gone, stands there no more, whatever the
// transaction itself writes over it ahead of Format. Where none is gone, it is still the old one's counts that hold.
func TestP6_8FreeOfATableThatIsLaidOverAPart(t *testing.T) {
	const room = 1000
	pages := blocksOf(t, room)
	for gone := range pages + 1 {
		for lives := range 3 {
			b := made(t, 200)
			p := b.space(home, room, room)
			first, _ := b.s.Read(home)
			for range lives {
				b.do(func(x *txn.Txn) { checkAlloc(t, p, x, 1, api.OK) })
				first, _ = b.s.Read(home)
				b.space(home, room, room)
			}
			b.do(func(x *txn.Txn) { checkAllocs(t, p, x, 1, room) })
			want := 0
			if gone < pages {
				b.do(func(x *txn.Txn) { x.Write(home+gone, full(255)) })
				want = room
			}
			for _, write := range overwritings(first, pages) {
				x := b.begin()
				write(x)
				checkFormat(t, x, home, room, room-1, api.OK)
				checkFree(t, p, x, max(want-1, 0))
				checkGrow(t, p, x, room, api.OK)
				checkFree(t, p, x, want)
				if want > 0 {
					checkAllocs(t, p, x, 1, 3)
					checkFree(t, p, x, want-3)
					checkAllocs(t, p, x, 4, want)
				}
				checkAlloc(t, p, x, 0, api.ErrSpaceFull)
				abort(t, x)
			}
		}
	}
}

// The same where the index takes more than one block, and the first change is not in the first of them.
func TestP6_8FreeOfALargeTableThatIsLaidOverAPart(t *testing.T) {
	const room, taken, letGo = 60000, 29000, 500
	pages := blocksOf(t, room)
	for _, gone := range []int{1, pages - 1, pages} {
		b := laid(t, 800, 400, 400)
		p := b.space(home, room, room)
		b.do(func(x *txn.Txn) { checkAllocs(t, p, x, 1, taken) })
		b.do(func(x *txn.Txn) {
			for n := 1; n <= letGo; n++ {
				checkUnref(t, p, x, n, 0, api.OK)
			}
		})
		first := 1
		if gone < pages {
			b.do(func(x *txn.Txn) { x.Write(home+gone, full(255)) })
		} else {
			b.do(func(x *txn.Txn) { checkAllocs(t, p, x, 1, letGo) })
			first = taken + 1
		}
		x := b.begin()
		x.Write(home, full(255))
		checkFormat(t, x, home, room, room, api.OK)
		checkFree(t, p, x, room-first+1)
		checkAllocs(t, p, x, first, first+9)
		checkFree(t, p, x, room-first-9)
		commit(t, x)
		b.do(func(x *txn.Txn) { checkFree(t, p, x, room-10) })
	}
}

func TestP6_3Open(t *testing.T) {
	for _, room := range []int{math.MinInt, -1, 0, 1, 10, 262144, 262145, math.MaxInt} {
		if p, e := space.Open(nil, -1, room); p != nil || e != api.ErrNil {
			t.Errorf("Open(nil, -1, %d) = a space: %v, %d", room, p != nil, e)
		}
	}
	b := made(t, 200)
	for _, room := range []int{math.MinInt, -1, 0, 262145, math.MaxInt} {
		for _, from := range []int{-1, 0, home, 200} {
			if p, e := space.Open(b.s, from, room); p != nil || e != api.ErrSpaceCount {
				t.Errorf("Open(s, %d, %d) = a space: %v, %d", from, room, p != nil, e)
			}
		}
	}
	seq := b.seq()
	b.open(home, 1)
	b.open(home, 262144)
	// With a transaction open, too, and ahead of Format.
	x := b.begin()
	p := b.open(home, 10)
	checkFormat(t, x, home, 10, 4, api.OK)
	checkAllocs(t, p, x, 1, 4)
	commit(t, x)
	if b.seq() != seq+1 {
		t.Errorf("Open has committed something")
	}
	b.do(func(x *txn.Txn) { checkTaken(t, b.open(home, 10), x, 4, map[int]int{1: 1, 2: 1, 3: 1, 4: 1}) })
	b.darken()
	for _, room := range []int{0, 10, 262145} {
		if p, e := space.Open(b.s, home, room); p != nil || e != api.ErrDiskOff {
			t.Errorf("Open(s, %d, %d) with the power off = a space: %v, %d", home, room, p != nil, e)
		}
	}
	if p, e := space.Open(nil, home, 10); p != nil || e != api.ErrNil {
		t.Errorf("Open(nil) = a space: %v, %d", p != nil, e)
	}
}

func TestP6_4AllocGivesTheLowest(t *testing.T) {
	b := made(t, 200)
	p := b.space(home, 20, 10)
	b.do(func(x *txn.Txn) {
		checkAllocs(t, p, x, 1, 10)
		checkAlloc(t, p, x, 0, api.ErrSpaceFull)
		checkAlloc(t, p, x, 0, api.ErrSpaceFull)
		checkFree(t, p, x, 0)
	})
	b.do(func(x *txn.Txn) {
		for _, n := range []int{9, 3, 7, 1} {
			checkUnref(t, p, x, n, 0, api.OK)
		}
		checkFree(t, p, x, 0)
		checkAlloc(t, p, x, 0, api.ErrSpaceFull)
	})
	b.do(func(x *txn.Txn) {
		checkFree(t, p, x, 4)
		for i, n := range []int{1, 3, 7, 9} {
			checkAlloc(t, p, x, n, api.OK)
			checkCount(t, p, x, n, 1, api.OK)
			checkFree(t, p, x, 3-i)
		}
		checkAlloc(t, p, x, 0, api.ErrSpaceFull)
	})
}

// What was given out in the transaction and is let go in it can be given out in it again, and again; what was not, not.
func TestP6_4AllocOfWhatIsLetGo(t *testing.T) {
	b := made(t, 200)
	p := b.space(home, 20, 6)
	b.do(func(x *txn.Txn) { checkAllocs(t, p, x, 1, 3) })
	x := b.begin()
	checkUnref(t, p, x, 1, 0, api.OK)
	checkFree(t, p, x, 3)
	for range 3 {
		checkAlloc(t, p, x, 4, api.OK)
		checkFree(t, p, x, 2)
		checkRef(t, p, x, 4, api.OK)
		checkUnref(t, p, x, 4, 1, api.OK)
		checkUnref(t, p, x, 4, 0, api.OK)
		checkFree(t, p, x, 3)
	}
	checkAllocs(t, p, x, 4, 6)
	checkAlloc(t, p, x, 0, api.ErrSpaceFull)
	checkUnref(t, p, x, 3, 0, api.OK)
	checkAlloc(t, p, x, 0, api.ErrSpaceFull)
	checkUnref(t, p, x, 5, 0, api.OK)
	checkFree(t, p, x, 1)
	checkAlloc(t, p, x, 5, api.OK)
	commit(t, x)
	b.do(func(x *txn.Txn) {
		checkTaken(t, p, x, 6, map[int]int{2: 1, 4: 1, 5: 1, 6: 1})
		checkAlloc(t, p, x, 1, api.OK)
		checkAlloc(t, p, x, 3, api.OK)
	})
}

// What Lowest tells is what Alloc gives then, however many are asked for, and telling it writes nothing.
func TestP6_4LowestTellsWhatAllocGives(t *testing.T) {
	b := made(t, 200)
	p := b.space(home, 2000, 1500)
	b.do(func(x *txn.Txn) { checkAllocs(t, p, x, 1, 1490) })
	b.do(func(x *txn.Txn) {
		for _, n := range []int{3, 480, 481, 1000} {
			checkUnref(t, p, x, n, 0, api.OK)
		}
		checkLowest(t, p, x, 3, []int{1491, 1492, 1493}, api.OK)
	})
	free := []int{3, 480, 481, 1000, 1491, 1492, 1493, 1494, 1495, 1496, 1497, 1498, 1499, 1500}
	x := b.begin()
	before := b.seq()
	for n := range free {
		checkLowest(t, p, x, n, free[:n], api.OK)
	}
	checkLowest(t, p, x, len(free), free, api.OK)
	checkLowest(t, p, x, len(free)+1, nil, api.ErrSpaceFull)
	checkLowest(t, p, x, math.MaxInt, nil, api.ErrSpaceFull)
	checkLowest(t, p, x, -1, nil, api.OK)
	commit(t, x)
	if b.seq() != before {
		t.Errorf("Lowest has written")
	}
	x = b.begin()
	for i, n := range free {
		checkLowest(t, p, x, 1, free[i:i+1], api.OK)
		checkAlloc(t, p, x, n, api.OK)
	}
	checkLowest(t, p, x, 0, nil, api.OK)
	checkLowest(t, p, x, 1, nil, api.ErrSpaceFull)
	checkUnref(t, p, x, 2, 0, api.OK)
	checkUnref(t, p, x, 1000, 0, api.OK)
	checkLowest(t, p, x, 1, []int{1000}, api.OK)
	checkLowest(t, p, x, 2, nil, api.ErrSpaceFull)
}

func TestP6_5Ref(t *testing.T) {
	b := made(t, 200)
	p := b.space(home, 10, 4)
	x := b.begin()
	checkAllocs(t, p, x, 1, 2)
	for count := 1; count < 250; count++ {
		checkCount(t, p, x, 1, count, api.OK)
		checkRef(t, p, x, 1, api.OK)
	}
	for range 2 {
		checkCount(t, p, x, 1, 250, api.OK)
		checkRef(t, p, x, 1, api.ErrSpaceRefs)
	}
	checkRef(t, p, x, 3, api.ErrSpaceNone)
	checkTaken(t, p, x, 4, map[int]int{1: 250, 2: 1})
	checkUnref(t, p, x, 1, 249, api.OK)
	checkRef(t, p, x, 1, api.OK)
	checkRef(t, p, x, 1, api.ErrSpaceRefs)
	commit(t, x)
	b.do(func(x *txn.Txn) {
		checkRef(t, p, x, 1, api.ErrSpaceRefs)
		checkRef(t, p, x, 2, api.OK)
		checkTaken(t, p, x, 4, map[int]int{1: 250, 2: 2})
	})
}

func TestP6_6Unref(t *testing.T) {
	b := made(t, 200)
	p := b.space(home, 10, 4)
	x := b.begin()
	checkAllocs(t, p, x, 1, 2)
	for range 249 {
		checkRef(t, p, x, 2, api.OK)
	}
	for left := 249; left >= 0; left-- {
		checkUnref(t, p, x, 2, left, api.OK)
		checkCount(t, p, x, 2, left, api.OK)
	}
	for range 2 {
		checkUnref(t, p, x, 2, 0, api.ErrSpaceNone)
		checkUnref(t, p, x, 4, 0, api.ErrSpaceNone)
	}
	checkTaken(t, p, x, 4, map[int]int{1: 1})
}

// Which pool blocks there are, by the three calls that name one.
func TestP6_7WhichBlocksThereAre(t *testing.T) {
	b := made(t, 200)
	for _, room := range []int{10, 480, 2000} {
		p := b.space(home, room, 8)
		x := b.begin()
		checkAllocs(t, p, x, 1, 8)
		for _, n := range []int{math.MinInt, -480, -1, 0, 9, 10, 11, room, room + 1, 1 << 20, math.MaxInt} {
			checkCount(t, p, x, n, 0, api.ErrSpaceBlock)
			checkRef(t, p, x, n, api.ErrSpaceBlock)
			checkUnref(t, p, x, n, 0, api.ErrSpaceBlock)
		}
		for _, n := range []int{1, 8} {
			checkCount(t, p, x, n, 1, api.OK)
			checkRef(t, p, x, n, api.OK)
			checkUnref(t, p, x, n, 1, api.OK)
		}
		checkGrow(t, p, x, 9, api.OK)
		checkCount(t, p, x, 9, 0, api.OK)
		checkRef(t, p, x, 9, api.ErrSpaceNone)
		checkUnref(t, p, x, 9, 0, api.ErrSpaceNone)
		checkCount(t, p, x, 10, 0, api.ErrSpaceBlock)
		abort(t, x)
	}
}

// One call of Counts tells what Count does of all blocks, in any order, and with blocks among them that are none.
func TestP6_7CountsTellsWhatCountDoes(t *testing.T) {
	b := made(t, 200)
	p := b.space(home, 2000, 1900)
	b.do(func(x *txn.Txn) { checkAllocs(t, p, x, 1, 1500) })
	x := b.begin()
	for n := 1; n <= 1500; n += 7 {
		for range n % 5 {
			checkRef(t, p, x, n, api.OK)
		}
	}
	checkUnref(t, p, x, 1000, 0, api.OK)
	counts, e := p.Counts(x)
	if e != api.OK {
		t.Fatalf("Counts(t) = %d", e)
	}
	for i := range 6000 {
		n := i*1237%2003 - 1
		got, e := counts(n)
		want, wantErr := p.Count(x, n)
		if got != want || e != wantErr {
			t.Fatalf("by Counts(t) of %d = %d, %d; want %d, %d", n, got, e, want, wantErr)
		}
	}
	abort(t, x)
}

// Calls that tell something write nothing, in the transaction neither.
func TestP6_8WhatTellsWritesNothing(t *testing.T) {
	b := made(t, 200)
	p := b.space(home, 1000, 900)
	b.do(func(x *txn.Txn) { checkAllocs(t, p, x, 1, 500) })
	seq := b.seq()
	x := b.begin()
	checkFree(t, p, x, 400)
	checkSize(t, p, x, 900)
	checkCount(t, p, x, 500, 1, api.OK)
	checkCount(t, p, x, 501, 0, api.OK)
	checkRef(t, p, x, 501, api.ErrSpaceNone)
	checkUnref(t, p, x, 501, 0, api.ErrSpaceNone)
	checkGrow(t, p, x, 900, api.ErrSpaceCount)
	commit(t, x)
	if b.seq() != seq {
		t.Errorf("a transaction in which all was told or refused has writes")
	}
}

func TestP6_10Grow(t *testing.T) {
	b := made(t, 200)
	p := b.space(home, 1000, 4)
	x := b.begin()
	checkAllocs(t, p, x, 1, 4)
	for _, count := range []int{math.MinInt, -1, 0, 1, 3, 4, 1001, 262144, math.MaxInt} {
		checkGrow(t, p, x, count, api.ErrSpaceCount)
	}
	checkTaken(t, p, x, 4, map[int]int{1: 1, 2: 1, 3: 1, 4: 1})
	checkGrow(t, p, x, 5, api.OK)
	checkFree(t, p, x, 1)
	checkAlloc(t, p, x, 5, api.OK)
	checkAlloc(t, p, x, 0, api.ErrSpaceFull)
	checkUnref(t, p, x, 2, 0, api.OK)
	m := mark(t, x)
	checkGrow(t, p, x, 1000, api.OK)
	checkGrow(t, p, x, 1000, api.ErrSpaceCount)
	checkGrow(t, p, x, 1001, api.ErrSpaceCount)
	checkTaken(t, p, x, 1000, map[int]int{1: 1, 3: 1, 4: 1, 5: 1})
	checkAlloc(t, p, x, 2, api.OK)
	checkAllocs(t, p, x, 6, 1000)
	back(t, x, m)
	checkSize(t, p, x, 5)
	checkFree(t, p, x, 1)
	checkGrow(t, p, x, 6, api.OK)
	commit(t, x)
	b.do(func(x *txn.Txn) { checkTaken(t, p, x, 6, map[int]int{1: 1, 3: 1, 4: 1, 5: 1}) })
}

// What was let go ahead of Grow stays let go: growing gives out nothing but what is new.
func TestP6_10GrowBehindUnref(t *testing.T) {
	b := made(t, 200)
	p := b.space(home, 1000, 4)
	b.do(func(x *txn.Txn) { checkAllocs(t, p, x, 1, 4) })
	x := b.begin()
	checkUnref(t, p, x, 4, 0, api.OK)
	checkGrow(t, p, x, 6, api.OK)
	checkFree(t, p, x, 2)
	checkAllocs(t, p, x, 5, 6)
	checkAlloc(t, p, x, 0, api.ErrSpaceFull)
	commit(t, x)
	b.do(func(x *txn.Txn) { checkAlloc(t, p, x, 4, api.OK) })
}

func TestR3ANilSpace(t *testing.T) {
	b := made(t, 200)
	b.space(home, 10, 4)
	var none *space.Space
	x := b.begin()
	checkRefused(t, none, x, api.ErrNil)
	checkRefused(t, none, nil, api.ErrNil)
	abort(t, x)
	checkRefused(t, none, x, api.ErrNil)
	b.darken()
	checkRefused(t, none, x, api.ErrNil)
}

func TestP6WhichTransactionsAreTaken(t *testing.T) {
	b, other := made(t, 200), made(t, 200)
	p := b.space(home, 10, 4)
	other.space(home, 10, 4)
	foreign := other.begin()
	checkRefused(t, p, nil, api.ErrNil)
	checkRefused(t, p, foreign, api.ErrTxnForeign)
	committed := b.begin()
	checkAlloc(t, p, committed, 1, api.OK)
	commit(t, committed)
	checkRefused(t, p, committed, api.ErrTxnOver)
	aborted := b.begin()
	checkAlloc(t, p, aborted, 2, api.OK)
	abort(t, aborted)
	checkRefused(t, p, aborted, api.ErrTxnOver)
	open := b.begin()
	checkRefused(t, p, committed, api.ErrTxnOver)
	checkRefused(t, p, aborted, api.ErrTxnOver)
	checkRefused(t, p, foreign, api.ErrTxnForeign)
	checkTaken(t, p, open, 4, map[int]int{1: 1})
	abort(t, foreign)
	checkRefused(t, p, foreign, api.ErrTxnForeign)
	b.darken()
	checkRefused(t, p, nil, api.ErrNil)
	for _, x := range []*txn.Txn{open, committed, aborted, foreign} {
		checkRefused(t, p, x, api.ErrDiskOff)
	}
}

// A refused call leaves every block as it was, whatever it was refused for.
func TestR2ARefusedCallChangesNothing(t *testing.T) {
	b := made(t, 200)
	p := b.space(home, 1000, 3)
	x := b.begin()
	checkAllocs(t, p, x, 1, 3)
	checkUnref(t, p, x, 2, 0, api.OK)
	checkAlloc(t, p, x, 2, api.OK)
	for range 249 {
		checkRef(t, p, x, 3, api.OK)
	}
	before := seenBlocks(t, x, 200)
	checkAlloc(t, p, x, 0, api.ErrSpaceFull)
	checkRef(t, p, x, 3, api.ErrSpaceRefs)
	checkRef(t, p, x, 4, api.ErrSpaceBlock)
	checkUnref(t, p, x, 4, 0, api.ErrSpaceBlock)
	checkGrow(t, p, x, 3, api.ErrSpaceCount)
	checkFormat(t, x, home, 1000, 1001, api.ErrSpaceCount)
	checkFormat(t, x, 199, 1000, 10, api.ErrJournalAt)
	if !bytes.Equal(seenBlocks(t, x, 200), before) {
		t.Errorf("a refused call has changed a block")
	}
}

func seenBlocks(t *testing.T, x *txn.Txn, total int) []byte {
	t.Helper()
	var all []byte
	for at := home; at < total; at++ {
		data, e := x.Read(at)
		if e != api.OK {
			t.Fatalf("Read(%d) = %d", at, e)
		}
		all = append(all, data...)
	}
	return all
}
