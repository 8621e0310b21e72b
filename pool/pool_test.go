package pool_test

import (
	"bytes"
	"fmt"
	"math"
	"testing"

	"cistern/api"
	"cistern/disk"
	"cistern/pool"
	"cistern/txn"
)

// full gives a block that is one byte all through.
func full(name byte) []byte { return bytes.Repeat([]byte{name}, 512) }

// noise gives bytes that look like chance and are the same in each run.
func noise(size int, seed uint32) []byte {
	out := make([]byte, size)
	for i := range out {
		seed = seed*1664525 + 1013904223
		out[i] = byte(seed >> 24)
	}
	return out
}

// neededFor is Needed as the chapter says it, for capacities that may be.
func neededFor(capacity int) int { return capacity + capacity/16 + 256 }

// bench is a pool, its disk, and the open transaction.
type bench struct {
	t *testing.T
	d *disk.Disk
	p *pool.Pool
	x *txn.Txn
}

func newDisk(t *testing.T, blocks int) *disk.Disk {
	t.Helper()
	d, e := disk.New(blocks)
	if e != api.OK {
		t.Fatalf("disk.New(%d) = %d", blocks, e)
	}
	return d
}

func diskOf(t *testing.T, image []byte) *disk.Disk {
	t.Helper()
	d, e := disk.Open(image)
	if e != api.OK {
		t.Fatalf("disk.Open of %d bytes = %d", len(image), e)
	}
	return d
}

func checkFormat(t *testing.T, d *disk.Disk, capacity int, want api.Errno) {
	t.Helper()
	if e := pool.Format(d, capacity); e != want {
		t.Fatalf("Format(d, %d) = %d; want %d", capacity, e, want)
	}
}

// made gives a new pool, with a transaction.
func made(t *testing.T, blocks int, capacity int) *bench {
	t.Helper()
	d := newDisk(t, blocks)
	checkFormat(t, d, capacity, api.OK)
	return found(t, d)
}

// found gives the pool that is found on a disk, with a transaction.
func found(t *testing.T, d *disk.Disk) *bench {
	t.Helper()
	p, e := pool.Open(d)
	if p == nil || e != api.OK {
		t.Fatalf("Open(d) = a pool: %v, %d", p != nil, e)
	}
	b := &bench{t: t, d: d, p: p}
	b.begin()
	return b
}

func checkNoOpen(t *testing.T, d *disk.Disk, want api.Errno) {
	t.Helper()
	if p, e := pool.Open(d); p != nil || e != want {
		t.Fatalf("Open(d) = a pool: %v, %d; want none, %d", p != nil, e, want)
	}
}

func (b *bench) begin() {
	b.t.Helper()
	x, e := b.p.Begin()
	if x == nil || e != api.OK {
		b.t.Fatalf("Begin() = a transaction: %v, %d", x != nil, e)
	}
	b.x = x
}

// commit commits, and begins the next transaction.
func (b *bench) commit() {
	b.t.Helper()
	if e := b.x.Commit(); e != api.OK {
		b.t.Fatalf("Commit() = %d", e)
	}
	b.begin()
}

// abort gives the transaction up, and begins the next one.
func (b *bench) abort() {
	b.t.Helper()
	if e := b.x.Abort(); e != api.OK {
		b.t.Fatalf("Abort() = %d", e)
	}
	b.begin()
}

func (b *bench) mark() int {
	b.t.Helper()
	m, e := b.x.Mark()
	if e != api.OK {
		b.t.Fatalf("Mark() = %d", e)
	}
	return m
}

func (b *bench) back(m int) {
	b.t.Helper()
	if e := b.x.Back(m); e != api.OK {
		b.t.Fatalf("Back(%d) = %d", m, e)
	}
}

func (b *bench) sync() {
	b.t.Helper()
	if e := b.p.Sync(); e != api.OK {
		b.t.Fatalf("Sync() = %d", e)
	}
}

// darken turns the power off.
func (b *bench) darken() {
	b.t.Helper()
	b.d.Fuse(0)
	if e := b.d.Flush(); e != api.ErrDiskOff {
		b.t.Fatalf("Flush() with a fuse of 0 = %d", e)
	}
}

func pendingOf(t *testing.T, d *disk.Disk) int {
	t.Helper()
	pending, e := d.Pending()
	if e != api.OK {
		t.Fatalf("Pending() = %d", e)
	}
	return len(pending)
}

// checkUnwritten holds that the transaction has no writes, by its Commit; it begins the next one.
func (b *bench) checkUnwritten(what string) {
	b.t.Helper()
	before := pendingOf(b.t, b.d)
	b.commit()
	if after := pendingOf(b.t, b.d); after != before {
		b.t.Errorf("%s has written: %d writes are pending, where %d were", what, after, before)
	}
}

func firstPlaces(n int) []int {
	places := make([]int, n)
	for i := range places {
		places[i] = i
	}
	return places
}

func crashed(t *testing.T, d *disk.Disk, keep []int) []byte {
	t.Helper()
	image, e := d.Crash(keep)
	if e != api.OK {
		t.Fatalf("Crash = %d", e)
	}
	return image
}

// lasting gives the pool that is found behind a cut now that no pending write survives.
func (b *bench) lasting() *bench {
	b.t.Helper()
	return found(b.t, diskOf(b.t, crashed(b.t, b.d, nil)))
}

// seen gives the pool that is found behind a cut now that all pending writes survive.
func (b *bench) seen() *bench {
	b.t.Helper()
	return found(b.t, diskOf(b.t, crashed(b.t, b.d, firstPlaces(pendingOf(b.t, b.d)))))
}

func (b *bench) view() api.View {
	b.t.Helper()
	v, e := b.p.View(b.x)
	if e != api.OK {
		b.t.Fatalf("View(t) = %d", e)
	}
	return v
}

func (b *bench) slot() api.Slot {
	b.t.Helper()
	s, e := b.p.Slot(b.x)
	if e != api.OK {
		b.t.Fatalf("Slot(t) = %d", e)
	}
	return s
}

func (b *bench) checkSetSlot(s api.Slot, want api.Errno) {
	b.t.Helper()
	if e := b.p.SetSlot(b.x, s); e != want {
		b.t.Errorf("SetSlot(t, %s) = %d; want %d", shown(s), e, want)
	}
}

// shown tells all of a thing; of empty lists and nil ones the same.
func shown(what any) string { return fmt.Sprintf("%+v", what) }

func (b *bench) checkSlot(want api.Slot) {
	b.t.Helper()
	if got := b.slot(); shown(got) != shown(want) {
		b.t.Errorf("Slot(t) = %s; want %s", shown(got), shown(want))
	}
}

func (b *bench) checkExtend(capacity int, want api.Errno) {
	b.t.Helper()
	if e := b.p.Extend(b.x, capacity); e != want {
		b.t.Errorf("Extend(t, %d) = %d; want %d", capacity, e, want)
	}
}

func (b *bench) place(at int) int {
	b.t.Helper()
	n, e := b.p.Place(at)
	if e != api.OK {
		b.t.Fatalf("Place(%d) = %d", at, e)
	}
	return n
}

func (b *bench) bound() int {
	b.t.Helper()
	n, e := b.p.Bound()
	if e != api.OK {
		b.t.Fatalf("Bound() = %d", e)
	}
	return n
}

// write lays a block in a pool block.
func (b *bench) write(block int, data []byte) {
	b.t.Helper()
	if e := b.x.Write(b.place(block), data); e != api.OK {
		b.t.Fatalf("Write of pool block %d = %d", block, e)
	}
}

func (b *bench) read(block int) []byte {
	b.t.Helper()
	data, e := b.x.Read(b.place(block))
	if e != api.OK {
		b.t.Fatalf("Read of pool block %d = %d", block, e)
	}
	return data
}

func (b *bench) alloc(count int) {
	b.t.Helper()
	for range count {
		if n, e := b.p.Space().Alloc(b.x); e != api.OK {
			b.t.Fatalf("Alloc(t) = %d, %d", n, e)
		}
	}
}

// put brings a new volume, with as many mapped blocks as are handed in.
func (b *bench) put(name string, mapped ...int) api.Entry {
	b.t.Helper()
	id, e := b.p.Catalog().Take(b.x)
	if e != api.OK {
		b.t.Fatalf("Take(t) = %d", e)
	}
	entry := api.Entry{Name: name, ID: id, Size: 262144}
	for _, l := range mapped {
		root, block, e := b.p.Map().Assign(b.x, entry.Root, l)
		if e != api.OK {
			b.t.Fatalf("Assign(t, %d, %d) = %d", entry.Root, l, e)
		}
		entry.Root = root
		b.write(block, full(byte(l)))
	}
	b.lay(entry)
	return entry
}

func (b *bench) lay(entry api.Entry) {
	b.t.Helper()
	if e := b.p.Catalog().Put(b.x, entry); e != api.OK {
		b.t.Fatalf("Put(t, %v) = %d", entry, e)
	}
}

// tells gives the state of the pool as the transaction sees it, without the bytes of pool blocks.
func (b *bench) tells() string {
	b.t.Helper()
	entries, e := b.p.Catalog().List(b.x)
	if e != api.OK {
		b.t.Fatalf("List(t) = %d", e)
	}
	v := b.view()
	counts := make([]int, v.Capacity)
	for i := range counts {
		if counts[i], e = b.p.Space().Count(b.x, i+1); e != api.OK {
			b.t.Fatalf("Count(t, %d) = %d", i+1, e)
		}
	}
	return shown(v) + shown(b.slot()) + shown(entries) + shown(counts)
}

// state gives the whole state of the pool as the transaction sees it. The bytes are those of all pool blocks that there may be.
func (b *bench) state() string {
	b.t.Helper()
	out := b.tells()
	for block := range b.bound() {
		out += string(b.read(block + 1))
	}
	return out
}

// empty is what an empty pool tells.
func empty(capacity int) string {
	return shown(api.View{Capacity: capacity, Free: capacity, Next: 1}) + shown(api.Slot{}) + "[]" + shown(make([]int, capacity))
}

func (b *bench) checkEmpty(capacity int) {
	b.t.Helper()
	if got, want := b.tells(), empty(capacity); got != want {
		b.t.Errorf("the pool tells %s; want %s", got, want)
	}
}

func TestP9ExamplesInTheirOrder(t *testing.T) {
	for c, want := range map[int]int{1: 257, 16: 273, 100: 362, 262144: 278784} {
		checkNeeded(t, c, want, api.OK)
	}
	checkNeeded(t, 0, 0, api.ErrPoolCapacity)
	checkNeeded(t, 262145, 0, api.ErrPoolCapacity)
	checkFormat(t, nil, 0, api.ErrNil)
	checkFormat(t, newDisk(t, 361), 100, api.ErrPoolSize)
	d := newDisk(t, 362)
	checkNoOpen(t, d, api.ErrPoolNone)
	checkFormat(t, d, 100, api.OK)
	b := found(t, d)
	b.checkEmpty(100)
	if x, e := b.p.Begin(); x != nil || e != api.ErrTxnOpen {
		t.Errorf("Begin() again = a transaction: %v, %d", x != nil, e)
	}
	b.checkSlot(api.Slot{})
	running := slotOf(api.SlotRunning, 0, 0, deletes(1)...)
	b.checkSetSlot(running, api.OK)
	b.checkSlot(running)
	b.abort()
	b.checkSlot(api.Slot{})
	b.checkSetSlot(slotOf(api.SlotRunning, 1, 0, deletes(1)...), api.ErrPoolSlot)
	b.checkSetSlot(slotOf(api.SlotDone, 1, 0, deletes(1)...), api.OK)
	b.checkSetSlot(slotOf(api.SlotAborted, 0, 0, deletes(1)...), api.ErrPoolSlot)
	b.checkSetSlot(api.Slot{Counter: 1}, api.ErrPoolSlot)
	b.checkSetSlot(slotOf(api.SlotRunning, 0, 0, deletes(121)...), api.ErrPoolSlot)
	b.checkSetSlot(slotOf(api.SlotRunning, 0, 0, api.Op{Kind: api.OpWrite, Name: "a"}), api.ErrPoolSlot)
	b.checkSetSlot(slotOf(api.SlotRunning, 0, 0, api.Op{Kind: api.OpCreate, Name: "a", To: -1}), api.ErrPoolSlot)
	b.checkExtend(100, api.ErrPoolCapacity)
	b.checkExtend(101, api.ErrPoolSize)
	b = made(t, 400, 100)
	b.checkExtend(137, api.ErrPoolSize)
	b.checkExtend(136, api.OK)
	b.commit()
	b.checkEmpty(136)
	if b.bound() != 136 || b.place(136) != b.place(136) {
		t.Errorf("Bound() = %d, Place(136) = %d, then %d", b.bound(), b.place(136), b.place(136))
	}
	checkNoPlace(t, b.p, 137, api.ErrSpaceBlock)
	checkNoPlace(t, b.p, 0, api.ErrSpaceBlock)
	b.sync()
	old, after := b.slot(), slotOf(api.SlotDone, 3, 0, deletes(3)...)
	b.checkSetSlot(after, api.OK)
	b.commit()
	b.lasting().checkSlot(old)
	b.seen().checkSlot(after)
}

func checkNeeded(t *testing.T, capacity int, want int, wantErr api.Errno) {
	t.Helper()
	if n, e := pool.Needed(capacity); n != want || e != wantErr {
		t.Errorf("Needed(%d) = %d, %d; want %d, %d", capacity, n, e, want, wantErr)
	}
}

func checkNoPlace(t *testing.T, p *pool.Pool, block int, want api.Errno) {
	t.Helper()
	if n, e := p.Place(block); n != 0 || e != want {
		t.Errorf("Place(%d) = %d, %d; want 0, %d", block, n, e, want)
	}
}

func TestP9_1Needed(t *testing.T) {
	for c := 1; c <= 262144; c++ {
		checkNeeded(t, c, neededFor(c), api.OK)
	}
	for c, want := range map[int]int{15: 271, 16: 273, 17: 274, 31: 288, 32: 290, 262143: 278782, 262144: 278784} {
		checkNeeded(t, c, want, api.OK)
	}
	for _, c := range []int{math.MinInt, -262144, -16, -1, 0, 262145, 262146, 1 << 32, math.MaxInt} {
		checkNeeded(t, c, 0, api.ErrPoolCapacity)
	}
}

// Disks of exactly as many blocks as are needed, of one fewer, and of some more.
func TestP9_2FormatAtTheEdges(t *testing.T) {
	for _, c := range []int{1, 15, 16, 17, 100, 480, 481, 262143, 262144} {
		n := neededFor(c)
		small := newDisk(t, n-1)
		checkFormat(t, small, c, api.ErrPoolSize)
		checkNoOpen(t, small, api.ErrPoolNone)
		for _, more := range []int{0, 1, 40} {
			if c > 1000 && more == 40 {
				continue
			}
			b := made(t, n+more, c)
			if v := b.view(); v.Capacity != c || v.Free != c || v.Next != 1 || len(v.Volumes) != 0 {
				t.Errorf("Format(a disk of %d blocks, %d): View = %s", n+more, c, shown(v))
			}
			b.checkSlot(api.Slot{})
			if n, e := b.p.Space().Count(b.x, c); n != 0 || e != api.OK {
				t.Errorf("Count(t, %d) = %d, %d", c, n, e)
			}
			if n, e := b.p.Space().Count(b.x, c+1); n != 0 || e != api.ErrSpaceBlock {
				t.Errorf("Count(t, %d) = %d, %d", c+1, n, e)
			}
		}
	}
}

func TestP9_2FormatOfCapacitiesThatMayNotBe(t *testing.T) {
	small, d := newDisk(t, 1), newDisk(t, 400)
	for _, c := range []int{math.MinInt, -1, 0, 262145, math.MaxInt} {
		checkFormat(t, nil, c, api.ErrNil)
		checkFormat(t, small, c, api.ErrPoolCapacity)
		checkFormat(t, d, c, api.ErrPoolCapacity)
	}
	for _, c := range []int{1, 136, 262144} {
		checkFormat(t, nil, c, api.ErrNil)
		checkFormat(t, small, c, api.ErrPoolSize)
	}
	for _, c := range []int{137, 262143, 262144} {
		checkFormat(t, d, c, api.ErrPoolSize)
	}
	checkFormat(t, d, 136, api.OK)
}

// used gives a pool of which all parts hold something that lasts, and something that does not.
func used(t *testing.T, blocks int, capacity int) *bench {
	t.Helper()
	b := made(t, blocks, capacity)
	b.put("a", 5, 6, 7)
	b.checkSetSlot(greatest(api.SlotAborted), api.OK)
	b.commit()
	b.sync()
	b.put("b", 70000)
	b.checkExtend(b.bound(), api.OK)
	b.alloc(1)
	b.commit()
	return b
}

func TestP9_2FormatOverAPool(t *testing.T) {
	for _, capacity := range []int{1, 20, 99, 100, 101, 136} {
		b := used(t, 400, 100)
		checkFormat(t, b.d, capacity, api.OK)
		if n := pendingOf(t, b.d); n != 0 {
			t.Errorf("behind Format %d writes are pending", n)
		}
		for _, n := range []*bench{b.lasting(), found(t, b.d)} {
			n.checkEmpty(capacity)
			n.alloc(capacity)
			n.commit()
			if v := n.view(); v.Free != 0 {
				t.Errorf("Free = %d; want 0", v.Free)
			}
		}
	}
}

func TestP9_2FormatOverAnyBytes(t *testing.T) {
	for seed := range uint32(12) {
		for _, blocks := range []int{257, 300, 400, 900} {
			d := diskOf(t, noise(blocks*512, seed))
			checkNoOpen(t, d, api.ErrPoolNone)
			checkFormat(t, d, 1+int(seed%2)*(neededBound(blocks)-1), api.OK)
			found(t, d).checkEmpty(1 + int(seed%2)*(neededBound(blocks)-1))
		}
	}
	for c := range 256 {
		d := diskOf(t, bytes.Repeat([]byte{byte(c)}, 300*512))
		checkNoOpen(t, d, api.ErrPoolNone)
		checkFormat(t, d, 42, api.OK)
		found(t, d).checkEmpty(42)
	}
}

// An image of a pool is made longer or shorter, and formatted then: where its parts lay others lie now.
func TestP9_2FormatOverAPoolOfAnotherDisk(t *testing.T) {
	image := crashed(t, used(t, 400, 100).d, nil)
	for _, blocks := range []int{257, 300, 399, 401, 500, 5000} {
		d := diskOf(t, append(bytes.Clone(image), make([]byte, 5000*512)...)[:blocks*512])
		checkNoOpen(t, d, api.ErrPoolSize)
		checkFormat(t, d, 1, api.OK)
		found(t, d).checkEmpty(1)
	}
}

// A Format that is refused leaves the pool that is open as it is.
func TestP9_2ARefusedFormatChangesNothing(t *testing.T) {
	b := used(t, 400, 100)
	b.put("c", 9)
	before, image, pending := b.state(), crashed(t, b.d, nil), pendingOf(t, b.d)
	for c, want := range map[int]api.Errno{-1: api.ErrPoolCapacity, 0: api.ErrPoolCapacity, 137: api.ErrPoolSize, 262144: api.ErrPoolSize, 262145: api.ErrPoolCapacity} {
		checkFormat(t, b.d, c, want)
	}
	if b.state() != before || !bytes.Equal(crashed(t, b.d, nil), image) || pendingOf(t, b.d) != pending {
		t.Errorf("a refused Format has changed something")
	}
	b.commit()
	if b.seen().state() != before {
		t.Errorf("a refused Format has changed what is found")
	}
}

func TestP9_3OpenFindsAllThatWasCommitted(t *testing.T) {
	b := used(t, 400, 100)
	for i := range 6 {
		b.put("v"+string(rune('a'+i)), i, i+4096)
		b.commit()
		before := b.state()
		b.put("lost")
		b.checkSetSlot(api.Slot{}, api.OK)
		old := b.x
		b = found(t, b.d)
		if b.state() != before {
			t.Fatalf("Open gives another pool than was committed")
		}
		if n := pendingOf(t, b.d); n != 0 {
			t.Errorf("behind Open %d writes are pending", n)
		}
		if b.lasting().state() != before {
			t.Errorf("what Open has found does not last")
		}
		// What was open is not: it is no transaction of this pool.
		if s, e := b.p.Slot(old); shown(s) != shown(api.Slot{}) || e != api.ErrTxnForeign {
			t.Errorf("Slot with a transaction of ahead of Open = %s, %d", shown(s), e)
		}
	}
}

func TestP9_3OpenOfNoDisk(t *testing.T) {
	checkNoOpen(t, nil, api.ErrNil)
	b := used(t, 400, 100)
	b.darken()
	checkNoOpen(t, b.d, api.ErrDiskOff)
	checkFormat(t, b.d, 100, api.ErrDiskOff)
	checkFormat(t, b.d, 0, api.ErrDiskOff)
	checkFormat(t, b.d, 1000, api.ErrDiskOff)
	bare := &bench{t: t, d: newDisk(t, 1)}
	bare.darken()
	checkNoOpen(t, bare.d, api.ErrDiskOff)
	checkFormat(t, bare.d, 100, api.ErrDiskOff)
}

func TestP9_3OpenOfAnotherNumberOfBlocks(t *testing.T) {
	for _, made := range []*bench{made(t, 400, 100), used(t, 400, 100), made(t, 257, 1)} {
		image := crashed(t, made.d, nil)
		blocks := len(image) / 512
		for _, n := range []int{1, 2, 256, 257, 258, 380, 399, 400, 401, 402, 417, 800} {
			d := diskOf(t, append(bytes.Clone(image), make([]byte, 1000*512)...)[:n*512])
			if n == blocks {
				found(t, d)
				continue
			}
			checkNoOpen(t, d, api.ErrPoolSize)
			if n < blocks {
				continue
			}
			// What stands behind it makes no difference.
			checkNoOpen(t, diskOf(t, append(bytes.Clone(image), noise((n-blocks)*512, 4)...)), api.ErrPoolSize)
		}
	}
}

// Two pools on two disks have nothing to do with each other.
func TestR5TwoPools(t *testing.T) {
	b, other := made(t, 300, 20), made(t, 300, 20)
	before := other.state()
	b.put("a", 1, 2)
	b.checkSetSlot(greatest(api.SlotRunning), api.OK)
	b.checkExtend(42, api.OK)
	b.commit()
	b.sync()
	if other.state() != before {
		t.Errorf("a pool tells of another one's changes")
	}
	b.darken()
	other.put("b", 3)
	other.commit()
	other.sync()
	other.lasting()
}

func TestP9_4Begin(t *testing.T) {
	b := made(t, 300, 20)
	for i := range 6 {
		if x, e := b.p.Begin(); x != nil || e != api.ErrTxnOpen {
			t.Errorf("Begin() with an open one = a transaction: %v, %d", x != nil, e)
		}
		old := b.x
		if i%2 == 0 {
			b.commit()
		} else {
			b.abort()
		}
		if b.x == old || b.p.Owns(b.x) != api.OK || b.p.Owns(old) != api.ErrTxnOver {
			t.Errorf("Begin() gives no new transaction of the pool")
		}
	}
	b.darken()
	if x, e := b.p.Begin(); x != nil || e != api.ErrDiskOff {
		t.Errorf("Begin() with the power off = a transaction: %v, %d", x != nil, e)
	}
}

func TestP9_5Sync(t *testing.T) {
	b := made(t, 300, 20)
	before := b.state()
	b.put("a", 1)
	b.commit()
	if b.lasting().state() != before {
		t.Fatalf("what is not synced lasts: this test tells nothing")
	}
	after := b.state()
	b.put("b", 1)
	b.sync()
	if n := pendingOf(t, b.d); n != 0 {
		t.Errorf("behind Sync %d writes are pending", n)
	}
	if b.lasting().state() != after {
		t.Errorf("what was synced does not last")
	}
	b.commit()
	if b.lasting().state() != after {
		t.Errorf("what was committed behind Sync lasts: this test tells nothing")
	}
	b.darken()
	if e := b.p.Sync(); e != api.ErrDiskOff {
		t.Errorf("Sync() with the power off = %d", e)
	}
}

// neededBound is the bound of a disk as the chapter says it, found step by step.
func neededBound(blocks int) int {
	bound := 0
	for c := 1; c <= 262144 && neededFor(c) <= blocks; c++ {
		bound = c
	}
	return bound
}

func TestP9_14BoundsNearEveryStep(t *testing.T) {
	for blocks := 257; blocks < 257+17*9; blocks++ {
		checkBound(t, blocks, neededBound(blocks))
	}
	for _, c := range []int{479, 480, 481, 4096, 28800, 28801} {
		for more := range 3 {
			checkBound(t, neededFor(c)+more, neededBound(neededFor(c)+more))
		}
	}
	for blocks, want := range map[int]int{278781: 262142, 278782: 262143, 278783: 262143, 278784: 262144, 278785: 262144, 524288: 262144} {
		checkBound(t, blocks, want)
	}
}

func checkBound(t *testing.T, blocks int, want int) {
	t.Helper()
	b := made(t, blocks, 1)
	if n := b.bound(); n != want {
		t.Errorf("Bound() of a disk of %d blocks = %d; want %d", blocks, n, want)
	}
	if at := b.place(want); at < 0 || at >= blocks {
		t.Errorf("Place(%d) on a disk of %d blocks = %d", want, blocks, at)
	}
	checkNoPlace(t, b.p, want+1, api.ErrSpaceBlock)
	if want < 262144 {
		b.checkExtend(want+1, errnoOf(want+1 > 1, api.ErrPoolSize, api.ErrPoolCapacity))
	}
	if want > 1 {
		b.checkExtend(want, api.OK)
	}
	b.checkExtend(want, api.ErrPoolCapacity)
	if n := b.bound(); n != want {
		t.Errorf("Bound() behind Extend = %d; want %d", n, want)
	}
}

func errnoOf(is bool, yes api.Errno, no api.Errno) api.Errno {
	if is {
		return yes
	}
	return no
}

func TestP9_13Place(t *testing.T) {
	for _, blocks := range []int{257, 273, 300, 400, 1000} {
		b := made(t, blocks, 1)
		places := map[int]int{}
		for block := 1; block <= b.bound(); block++ {
			at := b.place(block)
			if other, twice := places[at]; twice || at < 0 || at >= blocks {
				t.Fatalf("on a disk of %d blocks Place(%d) = %d, of %d too", blocks, block, at, other)
			}
			places[at] = block
		}
		for _, block := range []int{math.MinInt, -1, 0, b.bound() + 1, 262145, math.MaxInt} {
			checkNoPlace(t, b.p, block, api.ErrSpaceBlock)
		}
		if b.bound() > 1 {
			b.checkExtend(b.bound(), api.OK)
		}
		b.commit()
		for _, again := range []*bench{b, b.seen()} {
			for at, block := range places {
				if n := again.place(block); n != at {
					t.Fatalf("Place(%d) = %d, then %d", block, at, n)
				}
			}
		}
	}
}

// What a transaction writes at a pool block's place is what the disk holds there, once all is at home.
func TestP9_13PlacesAreBlocksOfTheDisk(t *testing.T) {
	b := made(t, 300, 20)
	for block := 1; block <= b.bound(); block++ {
		b.write(block, full(byte(block)))
		if block%30 == 0 {
			b.commit()
		}
	}
	b.commit()
	b = b.seen()
	for block := 1; block <= b.bound(); block++ {
		if data, e := b.d.Read(b.place(block)); e != api.OK || !bytes.Equal(data, full(byte(block))) {
			t.Errorf("the disk's block %d is not pool block %d", b.place(block), block)
		}
	}
}

// Pool blocks lie where nothing else does: who writes all of them changes nothing else, and all else that is written changes none.
func TestP9_13PoolBlocksAreNothingElses(t *testing.T) {
	for _, blocks := range []int{257, 300, 400, 800} {
		b := made(t, blocks, 1)
		if b.bound() > 1 {
			b.checkExtend(b.bound(), api.OK)
		}
		b.commit()
		before := b.tells()
		b.writeAll(1)
		if b.tells() != before || b.seen().tells() != before {
			t.Fatalf("on a disk of %d blocks what is written in pool blocks changes something else", blocks)
		}
		for turn := range 20 {
			b.checkSetSlot(greatest(1+turn%2*2), api.OK)
			b.put("v" + string(rune('a'+turn)))
			b.fillCounts(turn%2 == 0)
			b.commit()
		}
		after := b.tells()
		for _, n := range []*bench{b, b.seen(), found(t, b.d)} {
			n.checkAll(1)
			if n.tells() != after {
				t.Fatalf("on a disk of %d blocks another pool is found", blocks)
			}
		}
	}
}

// writeAll lays noise in every pool block that there may be.
func (b *bench) writeAll(seed uint32) {
	b.t.Helper()
	for block := 1; block <= b.bound(); block++ {
		b.write(block, noise(512, seed*1000000+uint32(block)))
		if block%30 == 0 {
			b.commit()
		}
	}
	b.commit()
}

func (b *bench) checkAll(seed uint32) {
	b.t.Helper()
	for block := 1; block <= b.bound(); block++ {
		if !bytes.Equal(b.read(block), noise(512, seed*1000000+uint32(block))) {
			b.t.Fatalf("pool block %d holds what was not written there", block)
		}
	}
}

// fillCounts takes all pool blocks, or lets all go.
func (b *bench) fillCounts(take bool) {
	b.t.Helper()
	v := b.view()
	if take {
		b.alloc(v.Free)
		return
	}
	for block := 1; block <= v.Capacity; block++ {
		if n, e := b.p.Space().Unref(b.x, block); n != 0 || e != api.OK {
			b.t.Fatalf("Unref(t, %d) = %d, %d", block, n, e)
		}
	}
}
