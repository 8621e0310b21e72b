package stream_test

import (
	"bytes"
	"testing"

	"cistern/api"
	"cistern/pool"
	"cistern/stream"
)

// used gives a pool with volumes of all sorts.
func used(t *testing.T) *bench {
	t.Helper()
	b := made(t, 150)
	b.do(create("a", 5000), write("a", 0, noise(512, 1)), write("a", 1, full(0)), write("a", 64, full(64)), write("a", 4999, lastByte(9)))
	b.do(snap("s", "a"), write("a", 0, noise(512, 2)), discard("a", 64, 65), write("a", 70, full(70)))
	b.do(clone("c", "s"), write("c", 4998, full(98)), create("e", 5000), create("o", 9), write("o", 8, full(8)))
	return b
}

// refuseAll asks Export and Import with arguments that are good and bad, and holds that each is refused.
func refuseAll(t *testing.T, p *pool.Pool, want api.Errno) {
	t.Helper()
	names := []string{"", "A", "zz", "a", "s", "o", "p"}
	for _, name := range names {
		for _, since := range names {
			if out, e := stream.Export(p, name, since); len(out) != 0 || e != want {
				t.Errorf("Export(%q, %q) = %d bytes, %d; want none, %d", name, since, len(out), e, want)
			}
		}
		for _, data := range [][]byte{nil, []byte("CST1"), []byte("CST1...."), laid("a", 9, "", 0), laid("a", 9, "zz", 1), laid("a", 9, "a", 1)} {
			if e := stream.Import(p, name, data); e != want {
				t.Errorf("Import(%q, %s) = %d; want %d", name, short(data), e, want)
			}
		}
	}
}

func TestR3ANilPool(t *testing.T) { refuseAll(t, nil, api.ErrNil) }

// The power is off: that is told ahead of all else, also where a transaction is open, and a program runs.
func TestR6ThePowerIsOff(t *testing.T) {
	for _, open := range []bool{false, true} {
		b := used(t)
		b.do(create("p", 9))
		b.setPartial(true, "p")
		b.setSlot(running(remove("a")))
		if open {
			b.begin()
		}
		before := b.image()
		b.darken()
		refuseAll(t, b.p, api.ErrDiskOff)
		refuseAll(t, nil, api.ErrNil)
		if b.image() != before {
			t.Errorf("calls with the power off have changed the disk")
		}
		checkLook(t, laid("a", 9, "", 0), api.StreamHead{Name: "a", Size: 9})
	}
}

// A transaction is open: that is told ahead of all that is wrong otherwise, and it is open still, and as it was.
func TestP15ATransactionIsOpen(t *testing.T) {
	for _, s := range []api.Slot{{}, running(remove("a"))} {
		b := used(t)
		b.do(create("p", 9))
		b.setPartial(true, "p")
		b.setSlot(s)
		before := b.image()
		x := b.begin()
		at, e := b.p.Place(140)
		if e != api.OK {
			t.Fatalf("Place(140) = %d", e)
		}
		x.Write(at, full(200))
		mark, _ := x.Mark()
		x.Write(at, full(201))
		refuseAll(t, b.p, api.ErrTxnOpen)
		if data, e := x.Read(at); !bytes.Equal(data, full(201)) || e != api.OK {
			t.Errorf("behind the calls Read of the open transaction = %.1q, %d", data, e)
		}
		if e := x.Back(mark); e != api.OK {
			t.Errorf("Back(%d) = %d", mark, e)
		}
		if n, e := x.Mark(); n != mark+1 || e != api.OK {
			t.Errorf("behind the calls Mark() = %d, %d; want %d", n, e, mark+1)
		}
		if b.image() != before {
			t.Errorf("calls with a transaction open have written to the disk")
		}
		b.commit(x)
		x = b.begin()
		if data, e := x.Read(at); !bytes.Equal(data, full(200)) || e != api.OK {
			t.Errorf("behind its commit Read = %.1q, %d", data, e)
		}
		x.Abort()
		b.checkExport("a", "s", b.expected("a", "s"))
	}
}

// Export writes nothing, pending or not, and no power goes off in it; nor is anything flushed.
func TestR5ExportOnlyTells(t *testing.T) {
	b := used(t)
	b.do(create("p", 9))
	b.setPartial(true, "p")
	before := b.image()
	b.d.Fuse(0)
	names := []string{"", "A", "zz", "a", "s", "c", "e", "o", "p"}
	for _, name := range names {
		for _, since := range names {
			stream.Export(b.p, name, since)
			b.checkClosed("Export")
			if !b.d.On() || b.image() != before {
				t.Fatalf("behind Export(%q, %q) something is changed", name, since)
			}
		}
	}
}

// What is handed out is asked twice, and written over in between, with its spare room.
func TestR4WhatIsHandedOutIsNew(t *testing.T) {
	b := used(t)
	before := b.image()
	for _, names := range [][2]string{{"a", ""}, {"a", "s"}, {"s", "a"}, {"c", "a"}, {"a", "a"}, {"e", ""}} {
		first := b.export(names[0], names[1])
		want := bytes.Clone(first)
		second := b.export(names[0], names[1])
		first = first[:cap(first)]
		for i := range first {
			first[i] = 0xee
		}
		if !bytes.Equal(second, want) {
			t.Errorf("who writes into what Export(%q, %q) gave changes what it gave again", names[0], names[1])
		}
		b.checkExport(names[0], names[1], want)
	}
	if b.image() != before {
		t.Errorf("who writes into what was handed out changes the disk")
	}
}

// What is handed in stays as it is, with its spare room, whether the call is done or refused; and it is not kept.
func TestR4WhatIsHandedInIsNotKept(t *testing.T) {
	b := used(t)
	small := made(t, 5)
	for i, data := range [][]byte{b.export("a", ""), b.export("a", "s"), b.export("s", "a"), laid("x", 9, "", 0, has(0, full(1), full(2)))} {
		room := append(bytes.Clone(data), full(0xaa)...)
		was := bytes.Clone(room)
		name := string([]byte{'n', byte('0' + i)})
		b.imports(name, room[:len(data)])
		stream.Import(b.p, "a", room[:len(data)])
		stream.Import(b.p, "x", room[:len(data)-1])
		stream.Import(small.p, name, room[:len(data)])
		if !bytes.Equal(room, was) {
			t.Fatalf("Import has changed what was handed in")
		}
		want := b.tells()
		for i := range room {
			room[i] = 0xee
		}
		if b.tells() != want {
			t.Errorf("who writes into what was handed in changes what the pool tells")
		}
		b.sync()
		if got := opened(t, b.crashed(nil)).tells(); got != want {
			t.Errorf("who writes into what was handed in changes what lasts")
		}
	}
	b.checkFine("behind it")
}

// Beside each error there is nothing, and a refused Export answers the same again.
func TestR2NothingBesideAnError(t *testing.T) {
	b := used(t)
	for range 2 {
		b.checkNoExport("A", "", api.ErrActName)
		b.checkNoExport("zz", "", api.ErrActUnknown)
		b.checkNoExport("a", "o", api.ErrStreamSince)
		checkNoLook(t, nil, api.ErrStreamForm)
		checkNoLook(t, []byte("CST1"), api.ErrStreamSum)
		b.checkRefused("a", b.export("a", ""), api.ErrStreamTaken)
	}
}

// Two pools in turns have nothing to do with each other.
func TestR5TwoPools(t *testing.T) {
	one, two := used(t), used(t)
	want := two.tells()
	one.imports("n", one.export("a", "s"))
	if two.tells() != want {
		t.Errorf("an Import into one pool changes another")
	}
	x := one.begin()
	two.imports("m", laid("x", 9, "", 0, has(0, full(1))))
	x.Abort()
	one.checkNone("m")
	one.darken()
	two.checkExport("a", "s", two.expected("a", "s"))
	refuseAll(t, one.p, api.ErrDiskOff)
}

// Over a pool of which a block is spoilt the calls end and do not panic, tell nothing beside an error, and leave no transaction open.
func TestP15ASpoiltPool(t *testing.T) {
	whole, over := used(t).export("a", ""), used(t).export("a", "s")
	blocks, _ := used(t).d.Blocks()
	for at := range blocks {
		for _, change := range []func(page []byte) []byte{
			func([]byte) []byte { return full(0) },
			func([]byte) []byte { return noise(512, uint32(at)) },
			func(page []byte) []byte { return append(bytes.Clone(page[:40]), full(85)[:472]...) },
		} {
			b := used(t)
			if !b.spoil(at, change) {
				break
			}
			for _, names := range [][2]string{{"a", ""}, {"a", "s"}, {"s", "a"}, {"c", "a"}, {"o", ""}, {"e", "c"}} {
				if out, e := stream.Export(b.p, names[0], names[1]); e != api.OK && len(out) > 0 {
					t.Errorf("Export(%q, %q) = %d bytes, %d", names[0], names[1], len(out), e)
				}
				b.checkClosed("Export")
			}
			stream.Import(b.p, "n", whole)
			b.checkClosed("Import")
			stream.Import(b.p, "m", over)
			b.checkClosed("Import")
		}
	}
}

// spoil commits another block in the place of one. It answers whether there is one that is in use, and the pool opens.
func (b *bench) spoil(at int, change func(page []byte) []byte) bool {
	b.t.Helper()
	x := b.begin()
	page, e := x.Read(at)
	if e != api.OK || bytes.Equal(page, full(0)) {
		x.Abort()
		return false
	}
	if e := x.Write(at, change(page)); e != api.OK {
		b.t.Fatalf("Write(%d) = %d", at, e)
	}
	b.commit(x)
	p, e := pool.Open(b.d)
	b.p = p
	return e == api.OK
}

// A node that can be none: the error of the maps goes up, from the volume and from the base; and one of a base is no ErrStreamBase.
func TestR2AnErrorOfALowerLayerGoesUp(t *testing.T) {
	b := used(t)
	over := b.export("a", "s")
	x := b.begin()
	v, e := b.p.Catalog().Find(x, "c")
	if e != api.OK {
		t.Fatalf("Find = %d", e)
	}
	at, e := b.p.Place(v.Root)
	if e != api.OK {
		t.Fatalf("Place(%d) = %d", v.Root, e)
	}
	x.Write(at, full(1))
	b.commit(x)
	before := b.image()
	for _, since := range []string{"", "a", "e", "c"} {
		b.checkNoExport("c", since, api.ErrRadixNode)
	}
	b.checkNoExport("a", "c", api.ErrRadixNode)
	b.checkNoExport("e", "c", api.ErrRadixNode)
	if e := stream.Import(b.p, "n", laid("x", 5000, "c", 5)); e != api.ErrRadixNode {
		t.Errorf("Import over a base whose map cannot be read = %d", e)
	}
	if b.image() != before {
		t.Errorf("calls that were refused have changed the disk")
	}
	b.imports("n", over)
	for _, l := range []int{0, 1, 63, 64, 70, 4998, 4999} {
		if !bytes.Equal(b.read("n", l), b.read("a", l)) {
			t.Errorf("over another base Import reads others at %d", l)
		}
	}
}
