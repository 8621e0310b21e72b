package radix_test

import (
	"bytes"
	"math"
	"slices"
	"testing"

	"cistern/api"
	"cistern/cache"
	"cistern/disk"
	"cistern/journal"
	"cistern/radix"
	"cistern/space"
	"cistern/txn"
)

// How many blocks the journals of these tests have. The table lies behind it, and behind that the pool blocks.
const journalBlocks = 400

// all is the end of the range of all logical blocks.
const all = 262144

// full gives a block that is one byte all through.
func full(name byte) []byte { return bytes.Repeat([]byte{name}, 512) }

// noise gives bytes that look like chance and are the same in each run.
func noise(size int, seed uint32) []byte {
	out := make([]byte, size)
	for i := range out {
		seed = seed*1664525 + 1013904223
		out[i] = byte(seed >> 24)
	}
	return out
}

// bench is a pool of some blocks with its maps, what it stands on, and the open transaction.
type bench struct {
	t    *testing.T
	size int
	base int
	d    *disk.Disk
	c    *cache.Cache
	j    *journal.Journal
	s    *txn.Store
	p    *space.Space
	m    *radix.Map
	x    *txn.Txn
}

// made gives a pool of so many blocks, all free, with a transaction.
func made(t *testing.T, size int) *bench {
	t.Helper()
	n, e := space.Blocks(size)
	if e != api.OK {
		t.Fatalf("space.Blocks(%d) = %d", size, e)
	}
	d, e := disk.New(journalBlocks + n + size)
	if e != api.OK {
		t.Fatalf("disk.New = %d", e)
	}
	c, e := cache.New(d, 64)
	if e != api.OK {
		t.Fatalf("cache.New = %d", e)
	}
	if e := journal.Format(c, 0, journalBlocks); e != api.OK {
		t.Fatalf("journal.Format = %d", e)
	}
	b := opened(t, d, size)
	if e := space.Format(b.x, journalBlocks, size, size); e != api.OK {
		t.Fatalf("space.Format = %d", e)
	}
	b.commit()
	return b
}

// opened gives the pool that is found on a disk.
func opened(t *testing.T, d *disk.Disk, size int) *bench {
	t.Helper()
	n, _ := space.Blocks(size)
	b := &bench{t: t, size: size, base: journalBlocks + n, d: d}
	var e [5]api.Errno
	b.c, e[0] = cache.New(d, 64)
	b.j, e[1] = journal.Open(b.c, 0, journalBlocks)
	b.s, e[2] = txn.Open(b.j)
	b.p, e[3] = space.Open(b.s, journalBlocks, size)
	b.m, e[4] = radix.New(b.p, b.base)
	if e != [5]api.Errno{} {
		t.Fatalf("opening a pool = %v", e)
	}
	b.begin()
	return b
}

// again gives the pool that is found on a disk that holds what this one's is seen to hold.
func (b *bench) again() *bench {
	b.t.Helper()
	pending, _ := b.d.Pending()
	image, e := b.d.Crash(firstPlaces(len(pending)))
	if e != api.OK {
		b.t.Fatalf("Crash = %d", e)
	}
	d, e := disk.Open(image)
	if e != api.OK {
		b.t.Fatalf("disk.Open = %d", e)
	}
	return opened(b.t, d, b.size)
}

func firstPlaces(n int) []int {
	places := make([]int, n)
	for i := range places {
		places[i] = i
	}
	return places
}

func (b *bench) begin() {
	b.t.Helper()
	x, e := b.s.Begin()
	if e != api.OK {
		b.t.Fatalf("Begin() = %d", e)
	}
	b.x = x
}

// commit commits, and begins the next transaction.
func (b *bench) commit() {
	b.t.Helper()
	if e := b.x.Commit(); e != api.OK {
		b.t.Fatalf("Commit() = %d", e)
	}
	b.begin()
}

// abort gives the transaction up, and begins the next one.
func (b *bench) abort() {
	b.t.Helper()
	if e := b.x.Abort(); e != api.OK {
		b.t.Fatalf("Abort() = %d", e)
	}
	b.begin()
}

func (b *bench) mark() int {
	b.t.Helper()
	m, e := b.x.Mark()
	if e != api.OK {
		b.t.Fatalf("Mark() = %d", e)
	}
	return m
}

func (b *bench) back(m int) {
	b.t.Helper()
	if e := b.x.Back(m); e != api.OK {
		b.t.Fatalf("Back(%d) = %d", m, e)
	}
}

// darken turns the power off.
func (b *bench) darken() {
	b.t.Helper()
	b.d.Fuse(0)
	if e := b.d.Flush(); e != api.ErrDiskOff {
		b.t.Fatalf("Flush() with a fuse of 0 = %d", e)
	}
}

func (b *bench) seq() int {
	b.t.Helper()
	n, e := b.j.Seq()
	if e != api.OK {
		b.t.Fatalf("Seq() = %d", e)
	}
	return n
}

// checkpoint brings all to its place, so that from now on what is read is read of the cache.
func (b *bench) checkpoint() {
	b.t.Helper()
	if e := b.j.Checkpoint(); e != api.OK {
		b.t.Fatalf("Checkpoint() = %d", e)
	}
}

// reads tells how many blocks were read of the cache.
func (b *bench) reads() int {
	b.t.Helper()
	hits, misses, e := b.c.Counts()
	if e != api.OK {
		b.t.Fatalf("Counts() = %d", e)
	}
	return hits + misses
}

// assign writes the map at each of these logical blocks; it gives the last root, and the last data block.
func (b *bench) assign(root int, at ...int) (int, int) {
	b.t.Helper()
	block := 0
	for _, l := range at {
		r, d, e := b.m.Assign(b.x, root, l)
		if e != api.OK || r == 0 || d == 0 {
			b.t.Fatalf("Assign(t, %d, %d) = %d, %d, %d", root, l, r, d, e)
		}
		root, block = r, d
	}
	return root, block
}

func (b *bench) drop(root int, from int, to int) int {
	b.t.Helper()
	r, e := b.m.Drop(b.x, root, from, to)
	if e != api.OK {
		b.t.Fatalf("Drop(t, %d, %d, %d) = %d, %d", root, from, to, r, e)
	}
	return r
}

func (b *bench) share(root int) {
	b.t.Helper()
	if e := b.m.Share(b.x, root); e != api.OK {
		b.t.Fatalf("Share(t, %d) = %d", root, e)
	}
}

func (b *bench) release(root int) {
	b.t.Helper()
	if e := b.m.Release(b.x, root); e != api.OK {
		b.t.Fatalf("Release(t, %d) = %d", root, e)
	}
}

func (b *bench) pairs(root int, from int, to int) []api.Pair {
	b.t.Helper()
	ps, e := b.m.Pairs(b.x, root, from, to)
	if e != api.OK {
		b.t.Fatalf("Pairs(t, %d, %d, %d) = %v, %d", root, from, to, ps, e)
	}
	return ps
}

func (b *bench) walk(root int) []api.Tile {
	b.t.Helper()
	ts, e := b.m.Walk(b.x, root)
	if e != api.OK {
		b.t.Fatalf("Walk(t, %d) = %v, %d", root, ts, e)
	}
	return ts
}

// path gives the pool blocks that a write at l meets: the three nodes, and the data block.
func (b *bench) path(root int, l int) [4]int {
	b.t.Helper()
	var path [4]int
	for _, tile := range b.walk(root) {
		path[tile.Level] = tile.Block
		if tile.Level == 3 && tile.Block == b.find(root, l) {
			return path
		}
	}
	b.t.Fatalf("%d is not mapped by root %d", l, root)
	return path
}

func (b *bench) find(root int, l int) int {
	b.t.Helper()
	n, e := b.m.Find(b.x, root, l)
	if e != api.OK {
		b.t.Fatalf("Find(t, %d, %d) = %d, %d", root, l, n, e)
	}
	return n
}

func (b *bench) checkFind(root int, l int, want int) {
	b.t.Helper()
	if n := b.find(root, l); n != want {
		b.t.Errorf("Find(t, %d, %d) = %d; want %d", root, l, n, want)
	}
}

func (b *bench) checkNeed(root int, l int, want int) {
	b.t.Helper()
	if n, e := b.m.Need(b.x, root, l); n != want || e != api.OK {
		b.t.Errorf("Need(t, %d, %d) = %d, %d; want %d", root, l, n, e, want)
	}
}

func (b *bench) checkNeedAll(root int, from int, to int, want int) {
	b.t.Helper()
	if n, e := b.m.NeedAll(b.x, root, from, to); n != want || e != api.OK {
		b.t.Errorf("NeedAll(t, %d, %d, %d) = %d, %d; want %d", root, from, to, n, e, want)
	}
}

func (b *bench) checkNeedDrop(root int, from int, to int, want int) {
	b.t.Helper()
	if n, e := b.m.NeedDrop(b.x, root, from, to); n != want || e != api.OK {
		b.t.Errorf("NeedDrop(t, %d, %d, %d) = %d, %d; want %d", root, from, to, n, e, want)
	}
}

// checkMapped holds what a map tells against the logical blocks that shall be mapped.
func (b *bench) checkMapped(root int, want ...int) {
	b.t.Helper()
	var got []int
	for _, p := range b.pairs(root, 0, all) {
		got = append(got, p.Logical)
		b.checkFind(root, p.Logical, p.Block)
	}
	if !slices.Equal(got, want) {
		b.t.Errorf("root %d has mapped %v; want %v", root, got, want)
	}
}

func (b *bench) checkFree(want int) {
	b.t.Helper()
	if n, e := b.p.Free(b.x); n != want || e != api.OK {
		b.t.Errorf("Free(t) = %d, %d; want %d", n, e, want)
	}
}

func (b *bench) free() int {
	b.t.Helper()
	n, e := b.p.Free(b.x)
	if e != api.OK {
		b.t.Fatalf("Free(t) = %d, %d", n, e)
	}
	return n
}

func (b *bench) count(block int) int {
	b.t.Helper()
	n, e := b.p.Count(b.x, block)
	if e != api.OK {
		b.t.Fatalf("Count(t, %d) = %d, %d", block, n, e)
	}
	return n
}

// counts gives the counts of all pool blocks, by number.
func (b *bench) counts() []int {
	b.t.Helper()
	counts := make([]int, b.size+1)
	for i := 1; i <= b.size; i++ {
		counts[i] = b.count(i)
	}
	return counts
}

// seen gives the bytes of all blocks that the transaction sees, but the journal's own.
func (b *bench) seen() [][]byte {
	b.t.Helper()
	var blocks [][]byte
	for at := journalBlocks; at < b.base+b.size; at++ {
		block, e := b.x.Read(at)
		if e != api.OK {
			b.t.Fatalf("Read(%d) = %d", at, e)
		}
		blocks = append(blocks, block)
	}
	return blocks
}

// put writes a data block.
func (b *bench) put(block int, data []byte) {
	b.t.Helper()
	if e := b.x.Write(b.base+block-1, data); e != api.OK {
		b.t.Fatalf("Write of pool block %d = %d", block, e)
	}
}

func (b *bench) read(block int) []byte {
	b.t.Helper()
	data, e := b.x.Read(b.base + block - 1)
	if e != api.OK {
		b.t.Fatalf("Read of pool block %d = %d", block, e)
	}
	return data
}

// checkRefused holds that every call is refused with one error, and zero values beside it.
func (b *bench) checkRefused(m *radix.Map, x *txn.Txn, root int, l int, from int, to int, want api.Errno) {
	b.t.Helper()
	b.checkRefusedAt(m, x, root, l, want)
	b.checkRefusedOver(m, x, root, from, to, want)
	b.checkRefusedRoot(m, x, root, want)
}

// checkRefusedAt holds it of the calls with a logical block.
func (b *bench) checkRefusedAt(m *radix.Map, x *txn.Txn, root int, l int, want api.Errno) {
	b.t.Helper()
	if n, e := m.Find(x, root, l); n != 0 || e != want {
		b.t.Errorf("Find(t, %d, %d) = %d, %d; want 0, %d", root, l, n, e, want)
	}
	if n, e := m.Need(x, root, l); n != 0 || e != want {
		b.t.Errorf("Need(t, %d, %d) = %d, %d; want 0, %d", root, l, n, e, want)
	}
	if r, n, e := m.Assign(x, root, l); r != 0 || n != 0 || e != want {
		b.t.Errorf("Assign(t, %d, %d) = %d, %d, %d; want 0, 0, %d", root, l, r, n, e, want)
	}
}

// checkRefusedOver holds it of the calls with a range.
func (b *bench) checkRefusedOver(m *radix.Map, x *txn.Txn, root int, from int, to int, want api.Errno) {
	b.t.Helper()
	if n, e := m.NeedAll(x, root, from, to); n != 0 || e != want {
		b.t.Errorf("NeedAll(t, %d, %d, %d) = %d, %d; want 0, %d", root, from, to, n, e, want)
	}
	if n, e := m.NeedDrop(x, root, from, to); n != 0 || e != want {
		b.t.Errorf("NeedDrop(t, %d, %d, %d) = %d, %d; want 0, %d", root, from, to, n, e, want)
	}
	if r, e := m.Drop(x, root, from, to); r != 0 || e != want {
		b.t.Errorf("Drop(t, %d, %d, %d) = %d, %d; want 0, %d", root, from, to, r, e, want)
	}
	if ps, e := m.Pairs(x, root, from, to); len(ps) != 0 || e != want {
		b.t.Errorf("Pairs(t, %d, %d, %d) = %v, %d; want none, %d", root, from, to, ps, e, want)
	}
	if r, ds, e := m.AssignAll(x, root, from, to); r != 0 || len(ds) != 0 || e != want {
		b.t.Errorf("AssignAll(t, %d, %d, %d) = %d, %v, %d; want 0, none, %d", root, from, to, r, ds, e, want)
	}
}

// checkRefusedRoot holds it of the calls with a root alone.
func (b *bench) checkRefusedRoot(m *radix.Map, x *txn.Txn, root int, want api.Errno) {
	b.t.Helper()
	if e := m.Share(x, root); e != want {
		b.t.Errorf("Share(t, %d) = %d; want %d", root, e, want)
	}
	if e := m.Release(x, root); e != want {
		b.t.Errorf("Release(t, %d) = %d; want %d", root, e, want)
	}
	if ts, e := m.Walk(x, root); len(ts) != 0 || e != want {
		b.t.Errorf("Walk(t, %d) = %v, %d; want none, %d", root, ts, e, want)
	}
}

func TestP7ExamplesInTheirOrder(t *testing.T) {
	b := made(t, 100)
	b.checkFind(0, 5, 0)
	b.checkNeed(0, 5, 4)
	if n, e := b.m.Need(b.x, 0, 262144); n != 0 || e != api.ErrRadixBlock {
		t.Errorf("Need(t, 0, 262144) = %d, %d; want ErrRadixBlock", n, e)
	}
	r, d := b.assign(0, 5)
	b.checkFind(r, 5, d)
	b.checkNeed(r, 5, 0)
	b.checkNeed(r, 6, 1)
	b.checkNeed(r, 64, 2)
	b.checkNeed(r, 4096, 3)
	if ps := b.pairs(r, 0, 262144); !slices.Equal(ps, []api.Pair{{Logical: 5, Block: d}}) {
		t.Errorf("Pairs(t, r, 0, 262144) = %v", ps)
	}
	ts := b.walk(r)
	if len(ts) != 4 || ts[0].Block != r || ts[3].Block != d {
		t.Fatalf("Walk(t, r) = %v", ts)
	}
	for level, tile := range ts {
		if tile.Level != level || tile.Refs != 1 || !tile.Own {
			t.Errorf("Walk(t, r)[%d] = %v", level, tile)
		}
	}
	b.share(r)
	b.checkNeed(r, 5, 4)
	b.checkNeed(r, 6, 4)
	q, f := b.assign(r, 5)
	b.checkFind(q, 5, f)
	b.checkFind(r, 5, d)
	if d == f || q == r {
		t.Errorf("Assign over a shared map gives root %d of %d, data block %d of %d", q, r, f, d)
	}
	b.checkNeedAll(0, 60, 70, 14)
	b.share(r)
	b.checkNeedDrop(r, 0, 262144, 0)
	if z := b.drop(r, 0, 262144); z != 0 {
		t.Errorf("Drop(t, r, 0, 262144) of a shared r = %d; want 0", z)
	}
	five, _ := b.assign(0, 5, 6)
	b.share(five)
	b.checkNeedDrop(five, 5, 6, 3)
	far, _ := b.assign(0, 5, 70)
	b.share(far)
	b.checkNeedDrop(far, 5, 6, 2)
	b.checkRefusedAt(b.m, b.x, r, -1, api.ErrRadixBlock)
	b.checkRefusedAt(b.m, b.x, 101, 0, api.ErrRadixNode)
	b.checkRefusedOver(b.m, b.x, r, 4, 3, api.ErrRadixRange)
}

func TestP7_1New(t *testing.T) {
	b := made(t, 10)
	for _, c := range []struct {
		s    *space.Space
		base int
		want api.Errno
	}{
		{nil, 0, api.ErrNil}, {nil, -1, api.ErrNil}, {nil, 524289, api.ErrNil},
		{b.p, math.MinInt, api.ErrRadixBase}, {b.p, -1, api.ErrRadixBase}, {b.p, 0, api.OK}, {b.p, 1, api.OK},
		{b.p, 524287, api.OK}, {b.p, 524288, api.OK}, {b.p, 524289, api.ErrRadixBase}, {b.p, math.MaxInt, api.ErrRadixBase},
	} {
		m, e := radix.New(c.s, c.base)
		if e != c.want || (m != nil) != (c.want == api.OK) {
			t.Errorf("New(a space: %v, %d) = a map: %v, %d; want %d", c.s != nil, c.base, m != nil, e, c.want)
		}
	}
}

// Pool block b lies at base + b - 1: there its bytes are, and nowhere else.
func TestP7_1WhereThePoolBlocksLie(t *testing.T) {
	b := made(t, 100)
	other, e := radix.New(b.p, b.base+50)
	if e != api.OK {
		t.Fatalf("New(s, %d) = %d", b.base+50, e)
	}
	before := b.seen()
	r, d, e := other.Assign(b.x, 0, 5)
	if e != api.OK || r > 50 || d > 50 {
		t.Fatalf("Assign(t, 0, 5) = %d, %d, %d", r, d, e)
	}
	after := b.seen()
	nodes := b.base - journalBlocks + 50
	for i := range before {
		isNode := i >= nodes && i < nodes+4 && i != nodes+d-1
		if i >= b.base-journalBlocks && bytes.Equal(before[i], after[i]) == isNode {
			t.Errorf("block %d behind the pool's base is changed: %v; want %v", i-b.base+journalBlocks, !isNode, isNode)
		}
	}
	b.checkRefusedAt(b.m, b.x, r, 5, api.ErrRadixNode)
	if n, e := other.Find(b.x, r, 5); n != d || e != api.OK {
		t.Errorf("Find(t, %d, 5) = %d, %d; want %d", r, n, e, d)
	}
}

// Where the store has not the pool blocks, what it says goes up, and nothing is changed.
func TestP7_1ABaseWhereTheStoreHasNoBlocks(t *testing.T) {
	b := made(t, 100)
	r, _ := b.assign(0, 5)
	b.commit()
	end := b.base + 100
	for _, base := range []int{0, 1, journalBlocks - 5, end - 5, end - 4, end, 524288} {
		m, e := radix.New(b.p, base)
		if e != api.OK {
			t.Fatalf("New(s, %d) = %d", base, e)
		}
		before := b.seen()
		if q, d, e := m.Assign(b.x, 0, 7); q != 0 || d != 0 || e != api.ErrJournalAt {
			t.Errorf("Assign(t, 0, 7) with a base of %d = %d, %d, %d; want ErrJournalAt", base, q, d, e)
		}
		if !slices.EqualFunc(b.seen(), before, bytes.Equal) {
			t.Errorf("a refused Assign with a base of %d has changed something", base)
		}
		if base < end-5 || base >= end {
			b.checkRefused(m, b.x, r, 5, 0, all, api.ErrJournalAt)
		}
		b.abort()
	}
}

// The logical blocks at the seams of nodes of each level.
func seams() []int {
	return []int{0, 1, 62, 63, 64, 65, 127, 128, 4031, 4032, 4095, 4096, 4097, 8191, 8192, 131071, 131072, 258047, 258048, 262079, 262080, 262142, 262143}
}

func TestP7_2Find(t *testing.T) {
	b := made(t, 400)
	for _, l := range seams() {
		b.checkFind(0, l, 0)
	}
	root := 0
	found := map[int]int{}
	for i, l := range seams() {
		var d int
		root, d = b.assign(root, l)
		found[l] = d
		for _, n := range seams()[i+1:] {
			b.checkFind(root, n, 0)
		}
	}
	taken := map[int]bool{}
	for l, d := range found {
		b.checkFind(root, l, d)
		if taken[d] {
			t.Errorf("data block %d is found at two logical blocks", d)
		}
		taken[d] = true
	}
	for _, l := range []int{2, 61, 66, 126, 129, 4030, 4033, 4094, 4098, 8190, 8193, 131070, 131073, 262141} {
		b.checkFind(root, l, 0)
	}
	b.commit()
	for l, d := range found {
		b.checkFind(root, l, d)
	}
	b = b.again()
	for l, d := range found {
		b.checkFind(root, l, d)
	}
}

func TestP7_3Need(t *testing.T) {
	b := made(t, 400)
	for _, l := range seams() {
		b.checkNeed(0, l, 4)
	}
	r, _ := b.assign(0, 0, 64, 4096)
	for _, c := range []struct{ l, want int }{
		{0, 0}, {1, 1}, {63, 1}, {64, 0}, {65, 1}, {127, 1}, {128, 2}, {4095, 2}, {4096, 0}, {4097, 1}, {4160, 2},
		{8191, 2}, {8192, 3}, {262143, 3},
	} {
		b.checkNeed(r, c.l, c.want)
	}
	b.share(r)
	for _, c := range []struct{ l, want int }{
		{0, 4}, {1, 4}, {64, 4}, {128, 4}, {4096, 4}, {8192, 4}, {262143, 4},
	} {
		b.checkNeed(r, c.l, c.want)
	}
	// The root and the nodes on the way to 0 are q's own now, all else is shared.
	q, _ := b.assign(r, 0)
	for _, c := range []struct{ l, want int }{
		{0, 0}, {1, 1}, {63, 1}, {64, 2}, {65, 2}, {128, 2}, {4095, 2}, {4096, 3}, {4097, 3}, {4160, 3}, {8191, 3}, {8192, 3},
	} {
		b.checkNeed(q, c.l, c.want)
	}
	// Of r the root is its own again, and what q has copied; what both name is shared.
	for _, c := range []struct{ l, want int }{
		{0, 0}, {1, 1}, {64, 2}, {128, 2}, {4096, 3}, {8191, 3}, {8192, 3},
	} {
		b.checkNeed(r, c.l, c.want)
	}
	// In a node of its own q has a data block that is shared.
	p, _ := b.assign(0, 7, 8)
	b.share(p)
	p2, _ := b.assign(p, 7)
	b.checkNeed(p2, 7, 0)
	b.checkNeed(p2, 8, 1)
	b.checkNeed(p2, 9, 1)
	b.release(p)
	b.checkNeed(p2, 8, 0)
}

// A block that is mapped and exclusive stays, and so does all of the map; nothing is written then.
func TestP7_4AssignOfWhatIsItsOwn(t *testing.T) {
	b := made(t, 100)
	r, d := b.assign(0, 4097)
	b.put(d, full(7))
	b.commit()
	seq := b.seq()
	if q, f := b.assign(r, 4097); q != r || f != d {
		t.Errorf("Assign(t, %d, 4097) = %d, %d; want %d, %d", r, q, f, r, d)
	}
	b.commit()
	if b.seq() != seq {
		t.Errorf("Assign of what is the map's own has written something")
	}
	if !bytes.Equal(b.read(d), full(7)) {
		t.Errorf("Assign of what is the map's own has changed its bytes")
	}
}

// What is written in the place of an exclusive node keeps the root.
func TestP7_4AssignInItsPlace(t *testing.T) {
	b := made(t, 100)
	r, _ := b.assign(0, 5)
	path := b.path(r, 5)
	for _, l := range []int{6, 63, 64, 4095, 4096, 262143} {
		if q, _ := b.assign(r, l); q != r {
			t.Errorf("Assign(t, %d, %d) over an exclusive map gives another root, %d", r, l, q)
		}
	}
	if got := b.path(r, 5); got != path {
		t.Errorf("the nodes on the way to 5 are %v; want %v", got, path)
	}
	b.checkMapped(r, 5, 6, 63, 64, 4095, 4096, 262143)
	for _, tile := range b.walk(r) {
		if tile.Refs != 1 || !tile.Own {
			t.Errorf("a map of its own has the tile %v", tile)
		}
	}
}

// The references of all that is met, where each of the levels in its turn is the first that is shared.
func TestP7_4AssignOfWhatIsShared(t *testing.T) {
	b := made(t, 200)
	r, _ := b.assign(0, 0, 1, 64, 4096)
	old, beside := b.path(r, 0), b.path(r, 1)
	under, behind := b.path(r, 64), b.path(r, 4096)
	b.share(r)
	q, d := b.assign(r, 0)
	now := b.path(q, 0)
	for i := range 4 {
		if now[i] == old[i] || b.count(now[i]) != 1 || b.count(old[i]) != 1 {
			t.Errorf("level %d: block %d with %d references takes the place of %d with %d", i, now[i], b.count(now[i]), old[i], b.count(old[i]))
		}
	}
	if now[0] != q || now[3] != d {
		t.Errorf("Assign answers %d, %d; the map has %v", q, d, now)
	}
	for _, shared := range []int{beside[3], under[2], behind[1]} {
		if n := b.count(shared); n != 2 {
			t.Errorf("block %d, that both maps name, has %d references; want 2", shared, n)
		}
	}
	for _, below := range []int{under[3], behind[2], behind[3]} {
		if n := b.count(below); n != 1 {
			t.Errorf("block %d, that hangs on a shared node alone, has %d references; want 1", below, n)
		}
	}
	b.checkFind(q, 1, beside[3])
	b.checkFind(q, 64, under[3])
	b.checkFind(q, 4096, behind[3])
	b.checkMapped(r, 0, 1, 64, 4096)
	b.checkFind(r, 0, old[3])
	// The data block at 1 alone is shared, the node at 64, the node at 4096.
	for _, c := range []struct {
		l      int
		shared int
		need   int
	}{{1, beside[3], 1}, {64, under[2], 2}, {4096, behind[1], 3}} {
		b.checkNeed(q, c.l, c.need)
		free, _ := b.p.Free(b.x)
		if p, _ := b.assign(q, c.l); p != q {
			t.Errorf("Assign(t, %d, %d) gives another root, %d", q, c.l, p)
		}
		b.checkFree(free - c.need)
		if n := b.count(c.shared); n != 1 {
			t.Errorf("block %d, behind a copy of it, has %d references; want 1", c.shared, n)
		}
	}
	b.checkMapped(q, 0, 1, 64, 4096)
	for _, root := range []int{r, q} {
		for _, tile := range b.walk(root) {
			if tile.Refs != 1 || !tile.Own {
				t.Errorf("a map that shares nothing has the tile %v", tile)
			}
		}
	}
}

// Just as many are free as it needs, and one less.
func TestP7_4AssignWhereLittleIsFree(t *testing.T) {
	for _, c := range []struct {
		name string
		l    int
		need int
	}{
		{"nothing is mapped", -1, 4}, {"a shared map", 5, 4}, {"a block beside a shared one", 6, 4}, {"another root's entry", 4096, 4},
		{"a block beside", 6, 1}, {"a node beside", 64, 2}, {"a node beside its node", 4096, 3},
	} {
		for _, less := range []int{0, 1} {
			b := made(t, 50)
			root := 0
			l := max(c.l, 0)
			if c.l >= 0 {
				root, _ = b.assign(0, 5)
				if c.need == 4 {
					b.share(root)
				}
			}
			for free, _ := b.p.Free(b.x); free > c.need-less; free-- {
				b.p.Alloc(b.x)
			}
			b.commit()
			seq, before := b.seq(), b.seen()
			b.checkNeed(root, l, c.need)
			r, d, e := b.m.Assign(b.x, root, l)
			if less == 0 {
				if e != api.OK || r == 0 || d == 0 {
					t.Errorf("%s: Assign where as many are free as it needs = %d, %d, %d", c.name, r, d, e)
				}
				b.checkFree(0)
				continue
			}
			if e != api.ErrSpaceFull || r != 0 || d != 0 {
				t.Errorf("%s: Assign where one is free too few = %d, %d, %d; want ErrSpaceFull", c.name, r, d, e)
			}
			if !slices.EqualFunc(b.seen(), before, bytes.Equal) {
				t.Errorf("%s: a refused Assign has changed something", c.name)
			}
			b.commit()
			if b.seq() != seq {
				t.Errorf("%s: a refused Assign has written something", c.name)
			}
		}
	}
}

// An Assign that needs nothing is not refused where nothing is free; nor is what lets go.
func TestP7_4WhereNothingIsFree(t *testing.T) {
	b := made(t, 10)
	r, d := b.assign(0, 5, 6)
	for {
		if _, e := b.p.Alloc(b.x); e != api.OK {
			break
		}
	}
	if q, f := b.assign(r, 6); q != r || f != d {
		t.Errorf("Assign of what is the map's own = %d, %d; want %d, %d", q, f, r, d)
	}
	if q := b.drop(r, 6, 7); q != r {
		t.Errorf("Drop(t, %d, 6, 7) = %d", r, q)
	}
	b.checkMapped(r, 5)
	if q := b.drop(r, 0, all); q != 0 {
		t.Errorf("Drop(t, %d, 0, 262144) = %d", r, q)
	}
}

// No bytes are changed but those of the map's nodes and of the counts.
func TestP7_4WhichBytesAreChanged(t *testing.T) {
	b := made(t, 100)
	for i := range b.size {
		b.put(i+1, noise(512, uint32(i)))
	}
	r, _ := b.assign(0, 5, 6, 70, 4096)
	b.share(r)
	for _, do := range []func() int{
		func() int { q, _ := b.assign(r, 6); return q },
		func() int { q, _ := b.assign(r, 7); b.share(q); return q },
		func() int { return b.drop(r, 70, 71) },
		func() int { q, _ := b.assign(0, 9); return q },
	} {
		before := b.seen()
		r = do()
		after := b.seen()
		isNode := map[int]bool{}
		for _, tile := range b.walk(r) {
			isNode[tile.Block] = tile.Level < 3
		}
		for block := 1; block <= b.size; block++ {
			at := b.base - journalBlocks + block - 1
			if !isNode[block] && !bytes.Equal(before[at], after[at]) {
				t.Errorf("the bytes of pool block %d are changed", block)
			}
		}
	}
}

// many gives a map of two blocks, and leaves others that share all of it but the way to the second one: so what leads to
// the first one alone has so many references.
func (b *bench) many(refs int, first int, write int) int {
	b.t.Helper()
	r, _ := b.assign(0, first, write)
	for range refs - 1 {
		b.share(r)
		if q, _ := b.assign(r, write); q == r {
			b.t.Fatalf("a shared map is written in its place")
		}
	}
	return r
}

// In a node that is to be copied another entry than the one that leads on names a block with 250 references: of level 1,
// 2 and 3. With 249 it is done.
func TestP7_4AssignWhereReferencesAreMost(t *testing.T) {
	for level, write := range []int{4096, 64, 1} {
		for _, refs := range []int{249, 250} {
			b := made(t, 1100)
			r := b.many(refs, 0, write)
			path := b.path(r, 0)
			if n := b.count(path[level+1]); n != refs {
				t.Fatalf("the block of level %d has %d references; want %d", level+1, n, refs)
			}
			b.share(r)
			b.checkNeed(r, write, 4)
			before := b.seen()
			q, d, e := b.m.Assign(b.x, r, write)
			if refs == 249 {
				if e != api.OK || q == 0 || d == 0 || b.count(path[level+1]) != 250 {
					t.Errorf("level %d: Assign beside a block with 249 references = %d, %d, %d", level+1, q, d, e)
				}
				continue
			}
			if e != api.ErrSpaceRefs || q != 0 || d != 0 {
				t.Errorf("level %d: Assign beside a block with 250 references = %d, %d, %d; want ErrSpaceRefs", level+1, q, d, e)
			}
			if !slices.EqualFunc(b.seen(), before, bytes.Equal) {
				t.Errorf("level %d: a refused Assign has changed something", level+1)
			}
			// Where it is the entry that leads on, it is done: what is copied in its turn has as many as before.
			q, d, e = b.m.Assign(b.x, r, 0)
			if e != api.OK || q == r || d == path[3] || b.count(path[level+1]) != 250 {
				t.Errorf("level %d: Assign by a block with 250 references = %d, %d, %d; it has %d", level+1, q, d, e, b.count(path[level+1]))
			}
			// An exclusive node is not copied: what it names counts nothing then.
			b.checkNeed(r, write, 3-level)
			b.assign(r, write)
		}
	}
}

// ErrSpaceFull is named ahead of ErrSpaceRefs.
func TestP7_4FullAheadOfReferences(t *testing.T) {
	b := made(t, 1100)
	r := b.many(250, 0, 4096)
	b.share(r)
	free, _ := b.p.Free(b.x)
	for range free - 3 {
		b.p.Alloc(b.x)
	}
	if q, d, e := b.m.Assign(b.x, r, 4096); q != 0 || d != 0 || e != api.ErrSpaceFull {
		t.Errorf("Assign = %d, %d, %d; want ErrSpaceFull", q, d, e)
	}
	// A drop of 4097 needs as many as the nodes of 4096 and 4097 that are shared.
	b = made(t, 1100)
	r, _ = b.assign(0, 4097)
	r, _ = b.assign(r, 0, 4096)
	for range 249 {
		b.share(r)
		b.assign(r, 4096)
	}
	b.share(r)
	b.checkNeedDrop(r, 4097, 4098, 3)
	if q, e := b.m.Drop(b.x, r, 4097, 4098); q != 0 || e != api.ErrSpaceRefs {
		t.Errorf("Drop = %d, %d; want ErrSpaceRefs", q, e)
	}
	for free, _ := b.p.Free(b.x); free > 2; free-- {
		b.p.Alloc(b.x)
	}
	if q, e := b.m.Drop(b.x, r, 4097, 4098); q != 0 || e != api.ErrSpaceFull {
		t.Errorf("Drop = %d, %d; want ErrSpaceFull", q, e)
	}
}

func TestP7_5NeedAll(t *testing.T) {
	b := made(t, 400)
	for _, c := range []struct{ from, to, want int }{
		{0, 0, 0}, {all, all, 0}, {77, 77, 0}, {0, 1, 4}, {all - 1, all, 4}, {0, 64, 67}, {0, 65, 69}, {63, 65, 6}, {60, 70, 14},
		{4095, 4097, 7}, {0, 4096, 1 + 1 + 64 + 4096}, {0, 4097, 1 + 2 + 65 + 4097}, {0, all, 1 + 64 + 4096 + all}, {1, all - 1, 1 + 64 + 4096 + all - 2},
	} {
		b.checkNeedAll(0, c.from, c.to, c.want)
	}
	r, _ := b.assign(0, 5, 6, 4096)
	for _, c := range []struct{ from, to, want int }{
		{5, 5, 0}, {5, 6, 0}, {5, 7, 0}, {4, 7, 1}, {5, 8, 1}, {0, 64, 62}, {0, 65, 64}, {7, 64, 57}, {64, 128, 65}, {4096, 4097, 0},
		{4095, 4096, 2}, {4095, 4097, 2}, {4095, 4098, 3}, {8192, 8193, 3}, {0, all, 64 + 4096 + all - 2 - 2 - 3},
	} {
		b.checkNeedAll(r, c.from, c.to, c.want)
	}
	b.share(r)
	for _, c := range []struct{ from, to, want int }{
		{5, 5, 0}, {5, 6, 0}, {5, 7, 0}, {4, 7, 4}, {3, 8, 6}, {0, 64, 65}, {64, 65, 4}, {4096, 4097, 0}, {4096, 4098, 4},
		{8192, 8193, 4}, {4095, 4098, 1 + 1 + 1 + 1 + 1 + 2}, {0, all, 1 + 64 + 4096 + all - 3},
	} {
		b.checkNeedAll(r, c.from, c.to, c.want)
	}
	q, _ := b.assign(r, 5)
	for _, c := range []struct{ from, to, want int }{
		{4, 5, 1}, {5, 7, 0}, {6, 7, 0}, {64, 65, 2}, {4096, 4097, 0}, {4097, 4098, 3}, {4160, 4161, 3}, {8192, 8193, 3},
	} {
		b.checkNeedAll(q, c.from, c.to, c.want)
	}
}

// It is what the writes of the blocks that are not mapped need, one behind the other.
func TestP7_5NeedAllIsWhatTheWritesNeed(t *testing.T) {
	b := made(t, 1500)
	r, _ := b.assign(0, 5, 6, 62, 64, 190, 4090, 4096, 4100, 12000)
	b.share(r)
	q, _ := b.assign(r, 64, 4097)
	b.commit()
	for _, root := range []int{0, r, q} {
		for _, c := range []struct{ from, to int }{{0, 10}, {0, 200}, {5, 6}, {60, 66}, {4000, 4200}, {4096, 4097}, {11990, 12010}, {8190, 8194}, {262100, 262144}} {
			sum, now := 0, root
			for l := c.from; l < c.to; l++ {
				if now != 0 && b.find(now, l) != 0 {
					continue
				}
				n, e := b.m.Need(b.x, now, l)
				if e != api.OK {
					t.Fatalf("Need = %d", e)
				}
				sum += n
				now, _ = b.assign(now, l)
			}
			b.abort()
			b.checkNeedAll(root, c.from, c.to, sum)
		}
	}
}
