package pool_test

import (
	"bytes"
	"slices"
	"testing"

	"cistern/api"
	"cistern/disk"
	"cistern/pool"
	"cistern/txn"
)

// askAll calls every call of a pool and of its parts, so that all of them end; what they change is given up.
func askAll(t *testing.T, p *pool.Pool) {
	t.Helper()
	p.Sync()
	p.Bound()
	x, e := p.Begin()
	if e != api.OK {
		t.Fatalf("Begin() = %d", e)
	}
	askWith(p, x)
	x.Abort()
	p.Sync()
}

func askWith(p *pool.Pool, x *txn.Txn) {
	p.View(x)
	p.Slot(x)
	p.Extend(x, 120)
	p.Extend(x, 136)
	p.View(x)
	p.SetSlot(x, greatest(api.SlotRunning))
	p.Slot(x)
	p.SetSlot(x, api.Slot{})
	p.Slot(x)
	for _, b := range []int{0, 1, 5, 100, 136} {
		p.Place(b)
		p.Space().Count(x, b)
		p.Space().Ref(x, b)
		p.Space().Unref(x, b)
		p.Map().Walk(x, b)
		p.Map().Pairs(x, b, 0, 262144)
	}
	p.Space().Alloc(x)
	p.Space().Free(x)
	root, _, _ := p.Map().Assign(x, 0, 5)
	p.Map().Drop(x, root, 0, 262144)
	id, _ := p.Catalog().Take(x)
	p.Catalog().Put(x, api.Entry{Name: "new", ID: max(id, 1), Size: 1})
	p.Catalog().List(x)
	p.Catalog().Remove(x, id)
	p.View(x)
}

// bads gives what a block is spoilt by.
func bads(good []byte, other []byte, seed uint32) [][]byte {
	turned := bytes.Clone(good)
	turned[int(seed)%512] ^= 1 << (seed % 8)
	return [][]byte{full(0), full(1), full(255), noise(512, seed), other, turned}
}

// Every block of a pool is spoilt in its turn: Open ends, and no call panics.
func TestP9_3PoolsOfWhichABlockIsSpoilt(t *testing.T) {
	for _, made := range []*bench{used(t, 400, 100), used(t, 400, 100).seen()} {
		image := crashed(t, made.d, firstPlaces(pendingOf(t, made.d)))
		met := map[api.Errno]int{}
		for at := range 400 {
			good, other := image[at*512:(at+1)*512], image[(at+1)%400*512:][:512]
			for way, bad := range bads(good, other, uint32(at)) {
				if way%3 != at%3 {
					continue
				}
				spoilt := bytes.Clone(image)
				copy(spoilt[at*512:], bad)
				p, e := pool.Open(diskOf(t, spoilt))
				met[e]++
				if (p == nil) == (e == api.OK) || e != api.OK && e != api.ErrPoolNone {
					t.Fatalf("Open where block %d is spoilt = a pool: %v, %d", at, p != nil, e)
				}
				if p != nil {
					askAll(t, p)
				}
			}
		}
		if met[api.OK] == 0 || met[api.ErrPoolNone] == 0 {
			t.Errorf("Open answers %v: too little for a test", met)
		}
	}
}

// Many blocks are spoilt at once.
func TestP9_3PoolsOfWhichManyBlocksAreSpoilt(t *testing.T) {
	image := crashed(t, used(t, 400, 100).d, nil)
	for seed := range uint32(300) {
		spoilt := bytes.Clone(image)
		for _, at := range noise(1+int(seed%40), seed) {
			block := 1 + int(at)*399/256
			copy(spoilt[block*512:], bads(full(7), image[(block+1)%400*512:][:512], seed+uint32(at))[int(at)%6])
		}
		p, e := pool.Open(diskOf(t, spoilt))
		if (p == nil) == (e == api.OK) || e != api.OK && e != api.ErrPoolNone {
			t.Fatalf("Open of a spoilt pool = a pool: %v, %d", p != nil, e)
		}
		if p != nil {
			askAll(t, p)
		}
	}
}

// A superblock of which a byte is another is none.
func TestP9_3SuperblocksOfWhichAByteIsSpoilt(t *testing.T) {
	image := crashed(t, made(t, 400, 100).d, nil)
	super := superOf(t, image)
	for i := range 512 {
		for _, by := range []byte{1, 128, 255} {
			spoilt := bytes.Clone(image)
			spoilt[super*512+i] ^= by
			checkNoOpen(t, diskOf(t, spoilt), api.ErrPoolNone)
		}
	}
}

// superOf gives the block of an image without which no pool stands there, and that two pools of a disk have alike.
func superOf(t *testing.T, image []byte) int {
	t.Helper()
	for at := range len(image) / 512 {
		spoilt := bytes.Clone(image)
		clear(spoilt[at*512 : (at+1)*512])
		if _, e := pool.Open(diskOf(t, spoilt)); e == api.ErrPoolNone {
			return at
		}
	}
	t.Fatalf("no block of a pool is missed")
	return 0
}

func TestP9_3OpenOfAnyBytes(t *testing.T) {
	super := crashed(t, made(t, 400, 100).d, nil)[:512]
	for seed := range uint32(60) {
		for _, blocks := range []int{1, 2, 256, 257, 400} {
			image := noise(blocks*512, seed)
			checkNoOpen(t, diskOf(t, image), api.ErrPoolNone)
			copy(image, super)
			checkNoOpen(t, diskOf(t, image), errnoOf(blocks == 400, api.ErrPoolNone, api.ErrPoolSize))
		}
	}
	for c := range 256 {
		checkNoOpen(t, diskOf(t, bytes.Repeat([]byte{byte(c)}, 300*512)), api.ErrPoolNone)
	}
	alone := make([]byte, 400*512)
	copy(alone, super)
	checkNoOpen(t, diskOf(t, alone), api.ErrPoolNone)
}

// Parts of a pool over noise: its superblock, and with it its journal, its counts, its catalog or its slot.
func TestP9_3PartsOfAPool(t *testing.T) {
	b := used(t, 400, 100)
	image := crashed(t, found(t, b.d).d, nil)
	homes := []func(p *pool.Pool) (int, int){pool.JournalHome, pool.CountsHome, pool.EntriesHome, pool.SlotHome}
	for mask := range 16 {
		part := noise(400*512, uint32(mask))
		copy(part, image[:512])
		for i, home := range homes {
			from, count := home(b.p)
			if mask>>i&1 == 1 {
				copy(part[from*512:(from+count)*512], image[from*512:])
			}
		}
		// Without its journal or its catalog there is none.
		d := diskOf(t, part)
		if mask&5 != 5 {
			checkNoOpen(t, d, api.ErrPoolNone)
			continue
		}
		n := found(t, d)
		n.x.Abort()
		askAll(t, n.p)
		n.begin()
		if _, e := n.p.Space().Size(n.x); (e == api.OK) != (mask&2 != 0) {
			t.Errorf("Size where the counts are there: %v = %d", mask&2 != 0, e)
		}
		if v, e := n.p.View(n.x); e == api.OK || shown(v) != shown(api.View{}) {
			t.Errorf("View of a pool whose maps are gone = %s, %d", shown(v), e)
		}
		if s, e := n.p.Slot(n.x); errnoOf(mask&8 != 0, api.OK, api.ErrPoolSlot) != e || e != api.OK && shown(s) != shown(api.Slot{}) {
			t.Errorf("Slot where it is there: %v = %d", mask&8 != 0, e)
		}
	}
}

// A transaction writes over the parts of its pool: no call panics, and behind Abort all is as before.
func TestP9_3PartsThatATransactionSpoils(t *testing.T) {
	b := used(t, 400, 100)
	before := b.state()
	b.abort()
	for at := range 400 {
		good, e := b.x.Read(at)
		if e == api.ErrJournalAt {
			continue
		}
		for _, bad := range bads(good, full(3), uint32(at)) {
			if e := b.x.Write(at, bad); e != api.OK {
				t.Fatalf("Write(%d) = %d", at, e)
			}
			askWith(b.p, b.x)
			b.abort()
		}
	}
	if b.state() != before {
		t.Errorf("what was given up is not as before")
	}
}

// A slot of which a block is spoilt is told as none, until another one is laid.
func TestP9_7SlotsOfWhichABlockIsSpoilt(t *testing.T) {
	b := made(t, 400, 100)
	b.checkSetSlot(greatest(api.SlotRunning), api.OK)
	b.commit()
	from, count := pool.SlotHome(b.p)
	for at := from; at < from+count; at++ {
		good, _ := b.x.Read(at)
		other, _ := b.x.Read(from + (at-from+1)%count)
		for _, bad := range bads(good, other, uint32(at)) {
			if e := b.x.Write(at, bad); e != api.OK {
				t.Fatalf("Write(%d) = %d", at, e)
			}
			if s, e := b.p.Slot(b.x); shown(s) != shown(api.Slot{}) || e != api.ErrPoolSlot {
				t.Errorf("Slot where its block %d is spoilt = %s, %d", at-from, shown(s), e)
			}
			b.checkSetSlot(greatest(api.SlotRunning), api.OK)
			b.checkSlot(greatest(api.SlotRunning))
			b.abort()
		}
	}
	b.checkSlot(greatest(api.SlotRunning))
}

// Blocks that look like a slot, and hold what none does.
func TestP9_7SlotsThatCannotBe(t *testing.T) {
	b := made(t, 400, 100)
	for _, s := range []api.Slot{
		{State: 4}, {State: 255}, {Counter: 1}, {Code: 1}, slotOf(0, 0, 0, deletes(1)...), slotOf(1, 0, 0), slotOf(1, 1, 0, deletes(1)...), slotOf(2, 0, 0, deletes(1)...),
		slotOf(3, 0, 0, deletes(1)...), slotOf(3, 0, 1000, deletes(1)...), slotOf(2, 121, 0, deletes(121)...), slotOf(1, 0, 0, api.Op{}), slotOf(1, 0, 0, api.Op{Kind: 8}), slotOf(1, 0, 0, api.Op{Kind: 11}),
		slotOf(1, 0, 0, api.Op{Kind: 1, From: 1<<40 + 1}), slotOf(1, 0, 0, api.Op{Kind: 1, To: 1 << 47}), slotOf(1, 0, 0, api.Op{Kind: 1, Name: string(full('a')[:32])}), slotOf(1, 0, 0, api.Op{Kind: 1, Other: string(full('a')[:255])}),
	} {
		if e := pool.LaySlot(b.p, b.x, s); e != api.OK {
			t.Fatalf("LaySlot = %d", e)
		}
		if got, e := b.p.Slot(b.x); shown(got) != shown(api.Slot{}) || e != api.ErrPoolSlot {
			t.Errorf("Slot where there is %s = %s, %d", shown(s), shown(got), e)
		}
		if v, e := b.p.View(b.x); e != api.OK || v.Capacity != 100 {
			t.Errorf("View beside a slot that cannot be = %d", e)
		}
		b.abort()
	}
	good := pool.SlotBytes(slotOf(1, 0, 0, manyOps(3, 5)...))
	for n := range good {
		b.checkNoSlotOf(good[:n])
	}
	b.checkNoSlotOf(append(bytes.Clone(good), 0))
	b.checkNoSlotOf(append(bytes.Clone(good), good...))
	long := pool.SlotBytes(greatest(api.SlotDone))
	for _, n := range []int{496, 497, 498, 5000, len(long) - 1} {
		b.checkNoSlotOf(long[:n])
	}
	for seed := range uint32(200) {
		spoilt := bytes.Clone(good)
		spoilt[int(seed)%len(spoilt)] = byte(seed * 7)
		pool.LayBytes(b.p, b.x, spoilt)
		if s, e := b.p.Slot(b.x); e == api.OK {
			b.checkBoth(s, api.OK)
		}
		b.abort()
	}
}

func (b *bench) checkNoSlotOf(data []byte) {
	b.t.Helper()
	pool.LayBytes(b.p, b.x, data)
	if s, e := b.p.Slot(b.x); shown(s) != shown(api.Slot{}) || e != api.ErrPoolSlot {
		b.t.Errorf("Slot where there are %d bytes that are none = %s, %d", len(data), shown(s), e)
	}
	b.abort()
}

// Entries whose roots lead nowhere, or to what is no node.
func TestP9_6RootsThatAreNone(t *testing.T) {
	b := made(t, 400, 100)
	a := b.put("a", 5)
	b.commit()
	before := b.view()
	for _, root := range []int{50, 100, 101, 136, 262144} {
		a := a
		a.Root = root
		b.lay(a)
		if v, e := b.p.View(b.x); e != api.ErrRadixNode || shown(v) != shown(api.View{}) {
			t.Errorf("View where a root is %d = %s, %d", root, shown(v), e)
		}
		b.abort()
	}
	// Nodes that name one another end all the same.
	tiles, e := b.p.Map().Walk(b.x, a.Root)
	if e != api.OK || len(tiles) != 4 {
		t.Fatalf("Walk = %v, %d", tiles, e)
	}
	for _, tile := range tiles {
		for _, other := range tiles {
			b.write(tile.Block, b.read(other.Block))
			if v, e := b.p.View(b.x); e != api.OK && shown(v) != shown(api.View{}) {
				t.Errorf("View = %s, %d", shown(v), e)
			}
			b.abort()
		}
	}
	b.checkView(before)
}

// A refused Open leaves a disk as it is, where nothing of a pool stands there.
func TestR2ARefusedOpenChangesNothing(t *testing.T) {
	pooled := crashed(t, used(t, 400, 100).d, nil)
	for _, image := range [][]byte{make([]byte, 400*512), noise(400*512, 1), append(bytes.Clone(pooled), full(0)...), pooled[:399*512], slices.Concat(full(0), pooled[512:])} {
		d := diskOf(t, image)
		if e := d.Write(1, full(9)); e != api.OK {
			t.Fatalf("Write = %d", e)
		}
		if p, e := pool.Open(d); p != nil || e != api.ErrPoolNone && e != api.ErrPoolSize {
			t.Errorf("Open = a pool: %v, %d", p != nil, e)
		}
		checkUntouched(t, d, image)
	}
}

// checkUntouched holds that of a disk nothing lasts but an image, and just one write is pending.
func checkUntouched(t *testing.T, d *disk.Disk, image []byte) {
	t.Helper()
	if got, e := d.Image(); e != api.OK || !bytes.Equal(got, image) || pendingOf(t, d) != 1 {
		t.Errorf("a refused Open has written: %d writes are pending, %d", pendingOf(t, d), e)
	}
}
