package delta_test

import (
	"bytes"
	"slices"
	"testing"

	"cistern/api"
	"cistern/delta"
	"cistern/pool"
	"cistern/vol"
)

// refuseAll asks both calls with arguments that are good and bad, and holds that each is refused.
func refuseAll(t *testing.T, p *pool.Pool, want api.Errno) {
	t.Helper()
	names := []string{"", "A", "zz", "a", "s", "o", "l"}
	for _, a := range names {
		for _, b := range names {
			refuse(t, p, a, b, want)
		}
	}
}

func TestR3ANilPool(t *testing.T) { refuseAll(t, nil, api.ErrNil) }

// The power is off: that is told ahead of all else, also where a transaction is open.
func TestR6ThePowerIsOff(t *testing.T) {
	for _, open := range []bool{false, true} {
		b := used(t)
		b.setPartial(true, "o")
		if open {
			b.begin()
		}
		before := b.image()
		b.darken()
		refuseAll(t, b.p, api.ErrDiskOff)
		refuseAll(t, nil, api.ErrNil)
		if b.image() != before {
			t.Errorf("calls with the power off have changed the disk")
		}
	}
}

// A transaction is open: that is told ahead of all that is wrong with the names, and it is open still, and as it was.
func TestP12ATransactionIsOpen(t *testing.T) {
	b := used(t)
	b.setPartial(true, "o")
	before := b.image()
	x := b.begin()
	at, e := b.p.Place(290)
	if e != api.OK {
		t.Fatalf("Place(290) = %d", e)
	}
	x.Write(at, full(200))
	mark, _ := x.Mark()
	x.Write(at, full(201))
	refuseAll(t, b.p, api.ErrTxnOpen)
	if data, e := x.Read(at); !bytes.Equal(data, full(201)) || e != api.OK {
		t.Errorf("behind the calls Read of the open transaction = %.1q, %d", data, e)
	}
	if e := x.Back(mark); e != api.OK {
		t.Errorf("Back(%d) = %d", mark, e)
	}
	if n, e := x.Mark(); n != mark+1 || e != api.OK {
		t.Errorf("behind the calls Mark() = %d, %d; want %d", n, e, mark+1)
	}
	if b.image() != before {
		t.Errorf("calls with a transaction open have written to the disk")
	}
	b.commit(x)
	x = b.begin()
	if data, e := x.Read(at); !bytes.Equal(data, full(200)) || e != api.OK {
		t.Errorf("behind its commit Read = %.1q, %d", data, e)
	}
	x.Abort()
	b.setPartial(false, "o")
	b.checkUsed()
}

// What an open transaction has done and given up is not told, and what it has committed is.
func TestP12WhatIsCommittedIsTold(t *testing.T) {
	b := used(t)
	x := b.begin()
	v, _ := b.p.Catalog().Find(x, "e")
	root, _, e := b.p.Map().Assign(x, 0, 7)
	if e != api.OK {
		t.Fatalf("Assign = %d", e)
	}
	v.Root = root
	b.p.Catalog().Put(x, v)
	x.Abort()
	b.checkUsed()
	b.do(write("e", 7, full(7)))
	b.check("e", "a", nil, spans(0, 2, 7, 8, 64, 65, 4999, 5000))
}

// A program that is running is no hindrance, whatever is in the slot.
func TestP12WhileAProgramIsRunning(t *testing.T) {
	for _, s := range []api.Slot{
		{State: api.SlotRunning, Ops: []api.Op{remove("s")}},
		{State: api.SlotRunning, Counter: 1, Ops: []api.Op{remove("s"), remove("c")}},
		{State: api.SlotDone, Counter: 1, Ops: []api.Op{remove("s")}},
		{State: api.SlotAborted, Code: 64, Ops: []api.Op{remove("s")}},
	} {
		b := used(t)
		b.setSlot(s)
		b.checkUsed()
		refuse(t, b.p, "A", "zz", api.ErrActName)
		refuse(t, b.p, "a", "zz", api.ErrActUnknown)
		x := b.begin()
		if got, e := b.p.Slot(x); got.State != s.State || got.Counter != s.Counter || len(got.Ops) != len(s.Ops) || e != api.OK {
			t.Errorf("behind the calls Slot() = %v, %d; want %v", got, e, s)
		}
		x.Abort()
	}
}

// Nothing is written, pending or not, and no power goes off in the calls; nor is anything flushed.
func TestR5CallsThatOnlyTell(t *testing.T) {
	b := used(t)
	b.do(write("a", 2, full(0)), discard("a", 2, 3))
	b.setPartial(true, "o")
	before := b.state()
	b.d.Fuse(0)
	names := []string{"", "A", "zz", "a", "s", "c", "o", "l"}
	for _, one := range names {
		for _, other := range names {
			delta.Shared(b.p, one, other)
			b.checkClosed("Shared")
			delta.Changed(b.p, one, other)
			b.checkClosed("Changed")
			if !b.d.On() || b.state() != before {
				t.Fatalf("behind calls of %q and %q something is changed", one, other)
			}
		}
	}
}

func overwrite[T any](list []T, with T) {
	for i := range list {
		list[i] = with
	}
}

// What is handed out is asked twice, and written over in between, with its spare room.
func TestR4WhatIsHandedOutIsNew(t *testing.T) {
	b := used(t)
	before := b.image()
	for _, names := range [][2]string{{"a", "s"}, {"a", "c"}, {"a", "o"}, {"a", "a"}, {"l", "s"}} {
		shared, changed := b.shared(names[0], names[1]), b.changed(names[0], names[1])
		wantShared, wantChanged := slices.Clone(shared), slices.Clone(changed)
		overwrite(shared[:cap(shared)], api.Range{From: 9, To: 8})
		if got := b.changed(names[0], names[1]); !slices.Equal(got, wantChanged) || !slices.Equal(changed, wantChanged) {
			t.Errorf("who writes into what Shared(%q, %q) gave changes what Changed gives", names[0], names[1])
		}
		overwrite(changed[:cap(changed)], api.Range{From: 7, To: 6})
		b.check(names[0], names[1], wantShared, wantChanged)
	}
	b.checkUsed()
	if b.image() != before {
		t.Errorf("who writes into what was handed out changes the disk")
	}
}

// Two pools in turns have nothing to do with each other.
func TestR5TwoPools(t *testing.T) {
	one, two := newWorld(t, 100), newWorld(t, 150)
	script := noise(8*200, 17)
	for n := 0; n < len(script) && !t.Failed(); n += 8 {
		w := one
		if script[n+7]%2 == 1 {
			w = two
		}
		w.step(opOf(script[n:]))
		if n%64 == 0 {
			one.checkAll()
			two.checkAll()
		}
	}
	x := one.begin()
	two.checkAll()
	x.Abort()
	two.darken()
	one.checkAll()
	refuseAll(t, two.p, api.ErrDiskOff)
}

// Over a pool of which a block is spoilt the calls end and do not panic, tell nothing beside an error, and leave no transaction open.
func TestP12ASpoiltPool(t *testing.T) {
	blocks, _ := used(t).d.Blocks()
	for at := range blocks {
		for _, change := range []func(page []byte) []byte{
			func([]byte) []byte { return full(0) },
			func([]byte) []byte { return noise(512, uint32(at)) },
			func(page []byte) []byte { return append(bytes.Clone(page[:40]), full(85)[:472]...) },
		} {
			b := used(t)
			if !b.spoil(at, change) {
				break
			}
			for _, names := range [][2]string{{"a", "s"}, {"c", "a"}, {"o", "l"}, {"e", "o"}, {"c", "c"}} {
				if ranges, e := delta.Shared(b.p, names[0], names[1]); e != api.OK && len(ranges) > 0 {
					t.Errorf("Shared(%q, %q) = %v, %d", names[0], names[1], ranges, e)
				}
				b.checkClosed("Shared")
				if ranges, e := delta.Changed(b.p, names[0], names[1]); e != api.OK && len(ranges) > 0 {
					t.Errorf("Changed(%q, %q) = %v, %d", names[0], names[1], ranges, e)
				}
				b.checkClosed("Changed")
			}
		}
	}
}

// spoil commits another block in the place of one. It answers whether there is one that is in use, and the pool opens.
func (b *bench) spoil(at int, change func(page []byte) []byte) bool {
	b.t.Helper()
	x := b.begin()
	page, e := x.Read(at)
	if e != api.OK || bytes.Equal(page, full(0)) {
		x.Abort()
		return false
	}
	if e := x.Write(at, change(page)); e != api.OK {
		b.t.Fatalf("Write(%d) = %d", at, e)
	}
	b.commit(x)
	p, e := pool.Open(b.d)
	b.p = p
	return e == api.OK
}

// A node that can be none: the error of the maps goes up, from whichever of the two volumes it comes.
func TestR2AnErrorOfALowerLayerGoesUp(t *testing.T) {
	b := used(t)
	x := b.begin()
	v, e := b.p.Catalog().Find(x, "o")
	if e != api.OK {
		t.Fatalf("Find = %d", e)
	}
	at, e := b.p.Place(v.Root)
	if e != api.OK {
		t.Fatalf("Place(%d) = %d", v.Root, e)
	}
	x.Write(at, full(1))
	b.commit(x)
	before := b.image()
	for _, other := range []string{"a", "e", "l", "o"} {
		refuse(t, b.p, "o", other, api.ErrRadixNode)
		refuse(t, b.p, other, "o", api.ErrRadixNode)
	}
	b.check("a", "e", nil, spans(0, 2, 64, 65, 4999, 5000))
	if b.image() != before {
		t.Errorf("calls that were refused have changed the disk")
	}
}

// Volumes of many thousands of blocks, with every second block changed, and with all of them.
func TestP12GreatVolumes(t *testing.T) {
	b := made(t, 30000, 0)
	b.do(create("a", 262144))
	for l := 100000; l < 108192; l += 32 {
		b.do(fill("a", l, l+32))
	}
	b.do(snap("s", "a"))
	b.check("a", "s", spans(100000, 108192), nil)
	for l := 100000; l < 104000; l += 2 {
		if e := vol.Do(b.p, write("s", l, full(1))); e != api.OK {
			t.Fatalf("Write at %d = %d", l, e)
		}
	}
	shared, changed := b.shared("a", "s"), b.changed("s", "a")
	if len(shared) != 2000 || shared[0] != (api.Range{From: 100001, To: 100002}) || shared[1999] != (api.Range{From: 103999, To: 108192}) {
		t.Errorf("where every second block is another Shared tells %d ranges", len(shared))
	}
	if len(changed) != 2000 || changed[0] != (api.Range{From: 100000, To: 100001}) || changed[1999] != (api.Range{From: 103998, To: 103999}) {
		t.Errorf("where every second block is another Changed tells %d ranges", len(changed))
	}
}
