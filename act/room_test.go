package act_test

import (
	"bytes"
	"fmt"
	"testing"

	"cistern/act"
	"cistern/api"
	"cistern/pool"
)

// deeds gives operations that take pool blocks, or may: with what is there ahead of them, and what they cost then.
func deeds() []struct {
	ahead []api.Op
	o     api.Op
	cost  int
} {
	a := []api.Op{create("a", 9000), write("a", 0, full(1)), write("a", 1, full(2)), write("a", 64, full(3)), write("a", 4096, full(4))}
	with := func(more ...api.Op) []api.Op { return append(a[:len(a):len(a)], more...) }
	shared := with(snap("s", "a"))
	inPart := with(snap("s", "a"), write("a", 0, full(5)))
	return []struct {
		ahead []api.Op
		o     api.Op
		cost  int
	}{
		{a[:1], write("a", 0, full(9)), 4},
		{a, write("a", 0, full(9)), 0},
		{a, write("a", 2, full(9)), 1},
		{a, write("a", 128, full(9)), 2},
		{a, write("a", 8192, full(9)), 3},
		{shared, write("a", 0, full(9)), 4},
		{shared, write("s", 8192, full(9)), 4},
		{shared, write("s", 128, full(9)), 4},
		{inPart, write("a", 0, full(9)), 0},
		{inPart, write("a", 1, full(9)), 1},
		{inPart, write("a", 64, full(9)), 2},
		{inPart, write("a", 4096, full(9)), 3},
		{inPart, write("s", 1, full(9)), 1},
		{inPart, write("s", 0, full(9)), 0},
		{a[:1], fill("a", 0, 32), 35},
		{a[:1], fill("a", 48, 80), 36},
		{a[:1], fill("a", 4080, 4112), 37},
		{a, fill("a", 0, 32), 30},
		{a, fill("a", 0, 2), 0},
		{a, fill("a", 60, 70), 9},
		{shared, fill("a", 0, 32), 33},
		{shared, fill("a", 0, 2), 0},
		{shared, fill("a", 62, 66), 7},
		{inPart, fill("s", 62, 66), 4},
		{inPart, fill("a", 62, 66), 4},
		{a, discard("a", 0, 1), 0},
		{shared, discard("a", 0, 1), 3},
		{shared, discard("a", 64, 65), 2},
		{shared, discard("a", 4096, 9000), 1},
		{shared, discard("a", 1, 4096), 3},
		{shared, discard("a", 0, 9000), 0},
		{shared, discard("a", 2, 64), 0},
		{inPart, discard("a", 64, 65), 0},
		{inPart, discard("s", 1, 65), 0},
		{inPart, discard("a", 0, 4097), 0},
		{a, resize("a", 1), 0},
		{shared, resize("a", 1), 3},
		{shared, resize("a", 64), 2},
		{shared, resize("a", 65), 1},
		{shared, resize("a", 4096), 1},
		{shared, resize("a", 4097), 0},
		{shared, resize("s", 262144), 0},
		{inPart, resize("a", 1), 0},
		{inPart, resize("s", 64), 0},
	}
}

// Just as many are free as the cost says, and one fewer: then it is refused and nothing is changed; where one more is free
// it is done.
func TestP10_4JustEnoughRoom(t *testing.T) {
	for _, c := range deeds() {
		b := made(t, 100, 0)
		b.do(c.ahead...)
		b.commit()
		b.checkCost(c.o, c.cost)
		spare := b.take(max(c.cost-1, 0))
		b.commit()
		before, counts := fmt.Sprint(b.view()), b.counts()
		b.checkCost(c.o, c.cost)
		if c.cost == 0 {
			b.do(c.o)
			b.checkFree(0)
			continue
		}
		b.check(c.o, api.ErrSpaceFull)
		b.checkUnwritten("a call that is refused for room")
		if fmt.Sprint(b.view()) != before {
			t.Errorf("Do(%s), refused for room, has changed the view", told(c.o))
		}
		// What was there when the transaction began is free behind its commit alone.
		last := spare[len(spare)-1]
		if _, e := b.p.Space().Unref(b.x, last); e != api.OK {
			t.Fatalf("Unref = %d", e)
		}
		b.check(c.o, api.ErrSpaceFull)
		b.commit()
		b.do(c.o)
		b.checkFree(0)
		counts[last] = 0
		if n := newly(counts, b.counts()); n != c.cost {
			t.Errorf("Do(%s) takes %d pool blocks; want %d", told(c.o), n, c.cost)
		}
		b.commit()
		b.checkTaken(len(spare) - 1)
	}
}

// checkTaken holds that what is not free is what the volumes reach, and so many besides.
func (b *bench) checkTaken(besides int) {
	b.t.Helper()
	reached := map[int]bool{}
	entries, e := b.p.Catalog().List(b.x)
	if e != api.OK {
		b.t.Fatalf("List(t) = %d", e)
	}
	for _, v := range entries {
		tiles, e := b.p.Map().Walk(b.x, v.Root)
		if e != api.OK {
			b.t.Fatalf("Walk(t, %d) = %d", v.Root, e)
		}
		for _, tile := range tiles {
			reached[tile.Block] = true
		}
	}
	v := b.view()
	if taken := v.Capacity - v.Free; taken != len(reached)+besides {
		b.t.Errorf("%d pool blocks are taken; the volumes reach %d, and there are %d besides", taken, len(reached), besides)
	}
}

// Blocks that the same transaction has taken are free at once where they are let go, and can be taken again.
func TestP10_4WhatTheTransactionItselfTook(t *testing.T) {
	b := made(t, 8, 0)
	b.do(create("a", 300))
	for i := range 20 {
		b.do(write("a", i*10, full(byte(i+1))))
		b.checkFree(4)
		b.checkCost(fill("a", i*10/64*64, i*10/64*64+6), 6-b.mappedFrom(i*10/64*64, 6))
		b.check(fill("a", i*10/64*64, i*10/64*64+6), api.ErrSpaceFull)
		b.do(discard("a", 0, 300))
		b.checkFree(8)
	}
	b.do(write("a", 5, full(1)))
	b.commit()
	// What was there when it began is free behind the commit alone.
	b.do(discard("a", 0, 300))
	b.checkFree(4)
	b.do(write("a", 5, full(2)))
	b.checkFree(0)
	b.check(create("b", 5), api.OK)
	b.check(write("b", 0, full(1)), api.ErrSpaceFull)
	b.do(discard("a", 0, 300))
	b.checkFree(4)
	b.do(write("b", 0, full(1)))
	b.commit()
	b.checkFree(4)
	b.checkRead("a", 5, 0)
	b.checkRead("b", 0, 1)
}

// mappedFrom tells how many of so many blocks of a are mapped.
func (b *bench) mappedFrom(from int, count int) int {
	b.t.Helper()
	pairs, e := b.p.Map().Pairs(b.x, b.entry("a").Root, from, from+count)
	if e != api.OK {
		b.t.Fatalf("Pairs = %d", e)
	}
	return len(pairs)
}

// A pool that is full: what costs nothing is done, all else is refused.
func TestP10_4AFullPool(t *testing.T) {
	b := used(t)
	b.take(0)
	b.commit()
	before := b.image()
	for _, o := range allKinds() {
		cost, e := act.Cost(b.p, b.x, o)
		if e != api.OK {
			t.Fatalf("Cost(%s) = %d", told(o), e)
		}
		if cost > 0 {
			b.check(o, api.ErrSpaceFull)
			b.checkUnwritten("a call that is refused for room")
			continue
		}
		b.do(o)
		b.abort()
	}
	if !bytes.Equal(b.image(), before) {
		t.Errorf("calls that are refused for room have changed the disk")
	}
}

// Where there are no pool blocks to be had even for one node.
func TestP10_4TheSmallestPools(t *testing.T) {
	for capacity := 1; capacity <= 5; capacity++ {
		b := made(t, capacity, 0)
		b.do(create("a", 10), snap("s", "a"))
		b.checkCost(write("a", 0, full(1)), 4)
		want := api.ErrSpaceFull
		if capacity >= 4 {
			want = api.OK
		}
		b.check(write("a", 0, full(1)), want)
		b.check(remove("s"), api.OK)
		b.again()
		if want == api.OK {
			b.checkRead("a", 0, 1)
		}
	}
}

// One operation and one slot always fit in a transaction.
func TestP10_4AnOperationAndASlot(t *testing.T) {
	b := made(t, 300, 0)
	b.do(create("a", 9000), fill("a", 4080, 4112))
	b.commit()
	b.do(snap("s", "a"))
	b.commit()
	b.do(discard("a", 4081, 4111))
	b.commit()
	var ops []api.Op
	for i := range 120 {
		ops = append(ops, rename(fmt.Sprintf("abcdefghijklmnopqrstuvwxyz.%d", i), "abcdefghijklmnopqrstuvwxyz.1234"))
	}
	for i, o := range []api.Op{fill("a", 4080, 4112), restore("a", "s"), resize("s", 1), create("e", 9000), fill("e", 4080, 4112), remove("a")} {
		if e := act.Do(b.p, b.x, o); e != api.OK && e != api.ErrActChildren {
			t.Fatalf("Do(%s) = %d", told(o), e)
		}
		if e := b.p.SetSlot(b.x, api.Slot{State: api.SlotRunning, Counter: i, Ops: ops}); e != api.OK {
			t.Fatalf("SetSlot = %d", e)
		}
		b.commit()
	}
}

// seen gives, of all names but some, what they read, and their sizes.
func (b *bench) seen(but ...string) string {
	b.t.Helper()
	out := bytes.Buffer{}
	for _, v := range b.view().Volumes {
		for _, name := range but {
			if v.Name == name {
				v.Size = -1
			}
		}
		if v.Size < 0 || v.Partial {
			continue
		}
		fmt.Fprintln(&out, v.Name, v.Size, v.ID, v.Origin, v.Kind, v.Mapped)
		for _, r := range v.Mapped {
			for l := r.From; l < r.To; l++ {
				out.Write(b.read(v.Name, l))
			}
		}
		for _, l := range []int{0, 2, 63, 65, 4095, v.Size - 1} {
			if l < v.Size {
				out.Write(b.read(v.Name, l))
			}
		}
	}
	return out.String()
}

// An operation over one name changes neither what any other name reads nor its size, for every kind.
func TestP10_5OtherNames(t *testing.T) {
	for _, o := range allKinds() {
		b := used(t)
		b.do(create("c2", 9), restore("c2", "c"), write("c2", 1, full(77)), restore("e", "s"))
		b.commit()
		but := []string{o.Name}
		if o.Kind == api.OpRename {
			but = append(but, o.Other)
		}
		before := b.seen(but...)
		b.do(o)
		if b.seen(but...) != before {
			t.Errorf("Do(%s) has changed what other names read", told(o))
		}
		b.commit()
		if b.seen(but...) != before {
			t.Errorf("Do(%s) has changed what other names read, behind its commit", told(o))
		}
	}
}

// Two volumes that share all are written block by block, each alone; the data blocks of both are their own then.
func TestP10_5WritesOfTwoThatShare(t *testing.T) {
	b := made(t, 400, 0)
	for _, o := range []api.Op{create("a", 70), fill("a", 0, 32), fill("a", 32, 64), fill("a", 64, 70), snap("s", "a"), clone("c", "s")} {
		b.do(o)
		b.commit()
	}
	want := map[string][]byte{"a": make([]byte, 70), "s": make([]byte, 70), "c": make([]byte, 70)}
	script := noise(3*400, 5)
	for n := 0; n < len(script); n += 3 {
		name, l := []string{"a", "s", "c"}[script[n]%3], int(script[n+1])%70
		value := script[n+2]
		if value%5 == 0 {
			b.do(discard(name, l, l+1))
			value = 0
		} else {
			b.do(write(name, l, full(value)))
		}
		want[name][l] = value
		if n%10 == 0 {
			b.commit()
			for name, values := range want {
				for l, value := range values {
					b.checkRead(name, l, value)
				}
			}
		}
	}
}

// Over a pool of which the bytes are spoilt the calls end, and do not panic.
func TestP9_3ASpoiltPool(t *testing.T) {
	whole := used(t)
	if e := whole.p.Sync(); e != api.OK {
		t.Fatalf("Sync() = %d", e)
	}
	blocks, _ := whole.d.Blocks()
	for at := range blocks {
		b := used(t)
		page, e := b.x.Read(at)
		if e != api.OK || bytes.Equal(page, full(0)) {
			continue
		}
		for _, data := range [][]byte{full(0), full(255), noise(512, uint32(at)), turned(page, 20), turned(page, 40), turned(page, 100)} {
			if e := b.x.Write(at, data); e != api.OK {
				t.Fatalf("Write(%d) = %d", at, e)
			}
			b.commit()
			p, e := pool.Open(b.d)
			if e != api.OK {
				break
			}
			b.p = p
			b.begin()
			for _, o := range allKinds() {
				act.Cost(b.p, b.x, o)
				act.Do(b.p, b.x, o)
				act.Read(b.p, b.x, "a", 0)
				act.Read(b.p, b.x, "s", 64)
				b.abort()
			}
		}
	}
}

// turned gives a block of which one byte is another.
func turned(block []byte, at int) []byte {
	out := bytes.Clone(block)
	out[at] ^= 85
	return out
}
