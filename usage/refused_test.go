package usage_test

import (
	"bytes"
	"slices"
	"testing"

	"cistern/api"
	"cistern/pool"
	"cistern/usage"
)

// refuseAll asks the three calls, Of with names that are good and bad, and holds that each is refused, with nothing beside the error.
func refuseAll(t *testing.T, p *pool.Pool, want api.Errno) {
	t.Helper()
	for _, name := range []string{"", "A", "zz", "a", "s", "o", "l"} {
		refuseOf(t, p, name, want)
	}
	refuseLists(t, p, want)
}

// refuseLists asks the two calls that tell of all volumes.
func refuseLists(t *testing.T, p *pool.Pool, want api.Errno) {
	t.Helper()
	if all, e := usage.All(p); len(all) != 0 || e != want {
		t.Errorf("All() = %v, %d; want none, %d", all, e, want)
	}
	if totals, e := usage.Total(p); totals != (api.Totals{}) || e != want {
		t.Errorf("Total() = %v, %d; want nothing, %d", totals, e, want)
	}
}

func TestR3ANilPool(t *testing.T) { refuseAll(t, nil, api.ErrNil) }

// The power is off: that is told ahead of all else, also where a transaction is open.
func TestR6ThePowerIsOff(t *testing.T) {
	for _, open := range []bool{false, true} {
		b := used(t)
		b.setPartial(true, "o")
		if open {
			b.begin()
		}
		before := b.onDisk()
		b.darken()
		refuseAll(t, b.p, api.ErrDiskOff)
		refuseAll(t, nil, api.ErrNil)
		if b.onDisk() != before {
			t.Errorf("calls with the power off have changed the disk")
		}
	}
}

// A transaction is open: that is told ahead of all that is wrong with the name, and it is open still, and as it was.
func TestP13ATransactionIsOpen(t *testing.T) {
	b := used(t)
	before := b.onDisk()
	x := b.begin()
	at, e := b.p.Place(290)
	if e != api.OK {
		t.Fatalf("Place(290) = %d", e)
	}
	x.Write(at, full(200))
	mark, _ := x.Mark()
	x.Write(at, full(201))
	refuseAll(t, b.p, api.ErrTxnOpen)
	if data, e := x.Read(at); !bytes.Equal(data, full(201)) || e != api.OK {
		t.Errorf("behind the calls Read of the open transaction = %.1q, %d", data, e)
	}
	if e := x.Back(mark); e != api.OK {
		t.Errorf("Back(%d) = %d", mark, e)
	}
	if n, e := x.Mark(); n != mark+1 || e != api.OK {
		t.Errorf("behind the calls Mark() = %d, %d; want %d", n, e, mark+1)
	}
	if b.onDisk() != before {
		t.Errorf("calls with a transaction open have written to the disk")
	}
	b.commit(x)
	x = b.begin()
	if data, e := x.Read(at); !bytes.Equal(data, full(200)) || e != api.OK {
		t.Errorf("behind its commit Read = %.1q, %d", data, e)
	}
	x.Abort()
	b.checkUsed()
}

// What an open transaction has done and given up is not told, and what it has committed is.
func TestP13WhatIsCommittedIsTold(t *testing.T) {
	b := used(t)
	x := b.begin()
	v, _ := b.p.Catalog().Find(x, "e")
	root, _, e := b.p.Map().Assign(x, 0, 7)
	if e != api.OK {
		t.Fatalf("Assign = %d", e)
	}
	v.Root = root
	b.p.Catalog().Put(x, v)
	x.Abort()
	b.checkUsed()
	b.do(write("e", 7, full(7)))
	if got := b.of("e"); got != take("e", 1, 3, 4, 0) {
		t.Errorf("Of(e) = %v", got)
	}
	b.checkTotal(api.Totals{Capacity: 300, Free: 259, Nodes: 25, Data: 16, Volumes: 5, Snaps: 1})
}

// A program that is running is no hindrance, whatever is in the slot.
func TestP13WhileAProgramIsRunning(t *testing.T) {
	for _, s := range []api.Slot{
		{State: api.SlotRunning, Ops: []api.Op{remove("s")}},
		{State: api.SlotRunning, Counter: 1, Ops: []api.Op{remove("s"), remove("c")}},
		{State: api.SlotDone, Counter: 1, Ops: []api.Op{remove("s")}},
		{State: api.SlotAborted, Code: 64, Ops: []api.Op{remove("s")}},
	} {
		b := used(t)
		b.setSlot(s)
		b.checkUsed()
		refuseOf(t, b.p, "A", api.ErrActName)
		refuseOf(t, b.p, "zz", api.ErrActUnknown)
		x := b.begin()
		if got, e := b.p.Slot(x); got.State != s.State || got.Counter != s.Counter || len(got.Ops) != len(s.Ops) || e != api.OK {
			t.Errorf("behind the calls Slot() = %v, %d; want %v", got, e, s)
		}
		x.Abort()
	}
}

// Nothing is written, pending or not, and no power goes off in the calls; nor is anything flushed.
func TestR5CallsThatOnlyTell(t *testing.T) {
	b := used(t)
	b.do(write("a", 2, full(0)), discard("a", 2, 3))
	b.setPartial(true, "o")
	before := b.state()
	b.d.Fuse(0)
	hold := func(what string) {
		b.checkClosed(what)
		if !b.d.On() || b.state() != before {
			t.Fatalf("behind %s something is changed", what)
		}
	}
	for _, name := range []string{"", "A", "zz", "a", "s", "c", "e", "o", "l"} {
		usage.Of(b.p, name)
		hold("Of(" + name + ")")
	}
	usage.All(b.p)
	hold("All")
	usage.Total(b.p)
	hold("Total")
}

// What is handed out is asked twice, and written over in between, with its spare room.
func TestR4WhatIsHandedOutIsNew(t *testing.T) {
	b := used(t)
	before := b.onDisk()
	one, two := b.all(), b.all()
	want := slices.Clone(one)
	one = one[:cap(one)]
	for i := range one {
		one[i] = take("zz", 1, 2, 3, 4)
	}
	if !slices.Equal(two, want) {
		t.Errorf("who writes into what All gave changes what it gave besides")
	}
	b.checkUsed()
	if b.onDisk() != before {
		t.Errorf("who writes into what was handed out changes the disk")
	}
}

// A node that can be none, and a root that the pool does not have: the error of the maps goes up, and what does not ask them is told.
func TestR2AnErrorOfALowerLayerGoesUp(t *testing.T) {
	for _, spoil := range []func(b *bench){
		func(b *bench) {
			x := b.begin()
			v, e := b.p.Catalog().Find(x, "o")
			if e != api.OK {
				t.Fatalf("Find = %d", e)
			}
			at, e := b.p.Place(v.Root)
			if e != api.OK {
				t.Fatalf("Place(%d) = %d", v.Root, e)
			}
			x.Write(at, full(1))
			b.commit(x)
		},
		func(b *bench) { b.entry("o", func(v *api.Entry) { v.Root = 301 }) },
	} {
		b := used(t)
		spoil(b)
		before := b.onDisk()
		refuseOf(t, b.p, "o", api.ErrRadixNode)
		refuseLists(t, b.p, api.ErrRadixNode)
		if got := b.of("a"); got != take("a", 4, 6, 3, 7) {
			t.Errorf("Of(a) = %v", got)
		}
		b.checkClosed("calls that were refused")
		if b.onDisk() != before {
			t.Errorf("calls that were refused have changed the disk")
		}
	}
}

// Over a pool of which a block is spoilt the calls end and do not panic, tell nothing beside an error, and leave no transaction open.
func TestP13ASpoiltPool(t *testing.T) {
	blocks, _ := used(t).d.Blocks()
	for at := range blocks {
		for _, change := range []func(page []byte) []byte{
			func([]byte) []byte { return full(0) },
			func([]byte) []byte { return noise(512, uint32(at)) },
			func(page []byte) []byte { return append(bytes.Clone(page[:40]), full(85)[:472]...) },
		} {
			b := used(t)
			if !b.spoil(at, change) {
				break
			}
			for _, name := range []string{"a", "s", "c", "e", "o", "l"} {
				if u, e := usage.Of(b.p, name); e != api.OK && u != (api.Usage{}) {
					t.Errorf("Of(%q) = %v, %d", name, u, e)
				}
				b.checkClosed("Of")
			}
			if all, e := usage.All(b.p); e != api.OK && len(all) > 0 {
				t.Errorf("All() = %v, %d", all, e)
			}
			b.checkClosed("All")
			if totals, e := usage.Total(b.p); e != api.OK && totals != (api.Totals{}) {
				t.Errorf("Total() = %v, %d", totals, e)
			}
			b.checkClosed("Total")
		}
	}
}

// spoil commits another block in the place of one. It answers whether there is one that is in use, and the pool opens.
func (b *bench) spoil(at int, change func(page []byte) []byte) bool {
	b.t.Helper()
	x := b.begin()
	page, e := x.Read(at)
	if e != api.OK || bytes.Equal(page, full(0)) {
		x.Abort()
		return false
	}
	if e := x.Write(at, change(page)); e != api.OK {
		b.t.Fatalf("Write(%d) = %d", at, e)
	}
	b.commit(x)
	p, e := pool.Open(b.d)
	b.p = p
	return e == api.OK
}

// Volumes of many thousands of blocks: many that are one map, and some that have a way of their own.
func TestP13GreatVolumes(t *testing.T) {
	b := made(t, 30000, 0)
	b.do(create("a", 262144))
	for l := 98304; l < 98304+8192; l += 32 {
		b.do(fill("a", l, l+32))
	}
	const mapped, nodes = 8192, 1 + 2 + 128
	want := []api.Usage{take("a", mapped, nodes, 0, mapped+nodes)}
	for i := range 20 {
		name := "s" + string(rune('a'+i))
		b.do(snap(name, "a"))
		u := take(name, mapped, nodes, 0, mapped+nodes)
		if i < 3 {
			b.do(write(name, 98304+i*100, full(1)))
			u.Own, u.Shared = 4, u.Shared-4
		}
		want = append(want, u)
	}
	b.check(want...)
	b.checkTotal(api.Totals{Capacity: 30000, Free: 30000 - mapped - nodes - 12, Nodes: nodes + 9, Data: mapped + 3, Volumes: 1, Snaps: 20})
}
