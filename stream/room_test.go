package stream_test

import (
	"bytes"
	"fmt"
	"testing"

	"cistern/api"
	"cistern/field"
	"cistern/stream"
	"cistern/vol"
)

// replayed does what an Import shall do by operations of layer 11, each a transaction, over a pool that is as the other was: the
// answer, and the pool behind it. (While it is done the volume is no Partial one: that is all that is unlike.)
func (b *bench) replayed(name string, data []byte) (*bench, api.Errno) {
	b.t.Helper()
	head, pieces, _, ok := parts(data[4 : len(data)-4])
	if !ok {
		b.t.Fatalf("%s is no stream", short(data))
	}
	c := b.twin()
	if _, ok := c.volume(name); ok {
		c.do(remove(name))
	}
	first := create(name, head.Size)
	if head.Since != "" {
		first = clone(name, head.Since)
	}
	if e := vol.Do(c.p, first); e != api.OK {
		return c, e
	}
	for _, p := range pieces {
		for _, o := range p.ops(name) {
			if e := vol.Do(c.p, o); e != api.OK {
				c.do(remove(name))
				return c, e
			}
		}
	}
	return c, api.OK
}

// ops gives what a run stands for.
func (p piece) ops(name string) []api.Op {
	if p.kind == 2 {
		return []api.Op{discard(name, p.from, p.to)}
	}
	var out []api.Op
	for l := p.from; l < p.to; l++ {
		out = append(out, write(name, l, p.blocks[512*(l-p.from):512*(l-p.from+1)]))
	}
	return out
}

// checkReplayed imports, and holds that it is as the operations one by one would be: the answer, and all that the pool tells.
func (b *bench) checkReplayed(name string, data []byte) api.Errno {
	b.t.Helper()
	others, was := b.tells(name), b.view()
	c, want := b.replayed(name, data)
	e := stream.Import(b.p, name, data)
	b.checkClosed("Import")
	if e != want {
		b.t.Errorf("Import(%q, %s) = %d; want %d", name, short(data), e, want)
	}
	if got, want := fmt.Sprint(b.view()), fmt.Sprint(c.view()); got != want {
		b.t.Errorf("behind Import(%q, ..) = %d View() = %s; want %s", name, e, got, want)
	}
	if got, want := b.tells(), c.tells(); got != want {
		b.t.Errorf("behind Import(%q, ..) = %d the pool tells %s; want %s", name, e, got, want)
	}
	if b.tells(name) != others {
		b.t.Errorf("Import(%q, ..) = %d has changed other volumes", name, e)
	}
	if e != api.OK {
		b.checkNone(name)
		if now := b.view(); now.Capacity != was.Capacity {
			b.t.Errorf("the capacity is %d", now.Capacity)
		}
	}
	b.checkFine(fmt.Sprintf("behind Import = %d", e))
	return e
}

// A whole stream into pools of every capacity up to where it has room: at each block there is none in one of them.
func TestP15_3NoRoomForAWholeStream(t *testing.T) {
	data := laid("x", 9000, "", 0, has(0, full(1), full(0)), has(63, full(2), full(3)), has(4096, full(4)), has(8999, full(5)))
	// A root, three nodes below it, four below these, and six data blocks.
	const need = 1 + 3 + 4 + 6
	for capacity := 1; capacity <= need+2; capacity++ {
		b := made(t, capacity)
		e := b.checkReplayed("n", data)
		v := b.view()
		if capacity < need && (e != api.ErrSpaceFull || v.Free != capacity || v.Next != 2 || len(v.Volumes) != 0) {
			t.Errorf("Import into a pool of %d = %d, behind it %v", capacity, e, v)
		}
		if capacity >= need && (e != api.OK || v.Free != capacity-need || v.Next != 2 || len(v.Volumes) != 1) {
			t.Errorf("Import into a pool of %d = %d, behind it %v", capacity, e, v)
		}
		if e != api.OK {
			// The number is taken: the next volume has the next one.
			b.imports("m", laid("x", 5, "", 0))
			b.checkVolume(api.Volume{Name: "m", ID: 2, Size: 5})
		}
	}
}

// An increment, likewise: a copy of each node that is written, and of those of which some goes and some stays.
func TestP15_3NoRoomForAnIncrement(t *testing.T) {
	refused, done := 0, 0
	for capacity := 13; capacity < 35; capacity++ {
		b := made(t, capacity)
		b.do(create("a", 9000), write("a", 0, full(1)), write("a", 1, full(2)), write("a", 64, full(3)), write("a", 4096, full(4)), write("a", 8999, full(5)))
		b.do(snap("s", "a"))
		sum := sumOfBlocks(9000, b.contents("s"))
		e := b.checkReplayed("n", laid("x", 9000, "s", sum, lost(0, 1), has(1, full(9)), has(5, full(10)), lost(64, 65), lost(4096, 4097), has(4100, full(11)), has(8999, full(12))))
		switch e {
		case api.OK:
			done++
		case api.ErrSpaceFull:
			refused++
			if v := b.view(); v.Next != 4 || len(v.Volumes) != 2 {
				t.Errorf("behind an Import that was refused: %v", v)
			}
		default:
			t.Errorf("Import into a pool of %d = %d", capacity, e)
		}
	}
	if refused < 8 || done < 8 {
		t.Errorf("%d were refused, %d done", refused, done)
	}
}

// What a step lets go is free for the next one: copies of nodes that two ranges need, and lose.
func TestP15_3WhatAStepLetsGo(t *testing.T) {
	b := made(t, 9)
	b.do(create("s", 200), write("s", 0, full(1)), write("s", 2, full(2)))
	data := laid("x", 200, "s", sumOfBlocks(200, b.contents("s")), lost(0, 1), lost(2, 3), has(100, full(3)))
	if e := b.checkReplayed("n", data); e != api.OK {
		t.Errorf("Import = %d", e)
	}
	b.checkVolume(api.Volume{Name: "n", ID: 2, Size: 200, Origin: 1, Mapped: spans(100, 101)})
	if v := b.view(); v.Free != 0 {
		t.Errorf("%d are free; want 0", v.Free)
	}
}

// A Partial volume that was there is gone, also if there is no room for the new one; what it had is room for it.
func TestP15_3NoRoomBehindAPartialVolume(t *testing.T) {
	for capacity := 12; capacity < 20; capacity++ {
		b := made(t, capacity)
		b.do(create("o", 9), write("o", 3, full(3)), create("n", 70), write("n", 5, full(1)), write("n", 69, full(2)))
		b.setPartial(true, "n")
		e := b.checkReplayed("n", laid("x", 200, "", 0, has(0, full(1), full(2)), has(128, full(3), full(4), full(5))))
		want := api.ErrSpaceFull
		if capacity >= 4+9 {
			want = api.OK
		}
		if e != want {
			t.Errorf("Import into a pool of %d = %d; want %d", capacity, e, want)
		}
		if v := b.view(); v.Next != 4 || want != api.OK && (v.Free != capacity-4 || len(v.Volumes) != 1) {
			t.Errorf("behind it: %v", v)
		}
	}
}

// 64 volumes, and one more; a Partial one that goes makes room.
func TestP15_3TheCatalogIsFull(t *testing.T) {
	b := made(t, 30)
	b.do(create("v0", 9), write("v0", 2, full(2)))
	for i := 1; i < 64; i++ {
		b.do(snap(fmt.Sprintf("v%d", i), "v0"))
	}
	whole, over := b.export("v3", ""), b.export("v3", "v0")
	for _, data := range [][]byte{whole, over} {
		b.checkRefused("n", data, api.ErrCatalogFull)
		b.checkRefused("v1", data, api.ErrStreamTaken)
	}
	b.checkRefused("n", laid("x", 9, "zz", 0), api.ErrStreamBase)
	b.setPartial(true, "v63")
	if e := b.checkReplayed("v63", whole); e != api.OK {
		t.Errorf("Import in the place of a Partial volume = %d", e)
	}
	b.checkVolume(api.Volume{Name: "v63", ID: 65, Size: 9, Mapped: spans(2, 3)})
	b.setPartial(true, "v63")
	if e := b.checkReplayed("v63", over); e != api.OK {
		t.Errorf("Import in the place of a Partial volume = %d", e)
	}
	b.checkVolume(api.Volume{Name: "v63", ID: 66, Size: 9, Origin: 1, Mapped: spans(2, 3)})
}

// lastIDs says that of the catalog's numbers those from next on are left. No calls come to it in a test's time.
func (b *bench) lastIDs(next int) {
	b.t.Helper()
	const mark = "cistern's volumes"
	head := append([]byte{byte(len(mark))}, mark...)
	head = append(head, 0)
	x := b.begin()
	blocks, _ := b.d.Blocks()
	for at := range blocks {
		page, e := x.Read(at)
		if e != api.OK || !bytes.HasPrefix(page, head) {
			continue
		}
		copy(page[len(head):], u32(next))
		if e := x.Write(at, page); e != api.OK {
			b.t.Fatalf("Write(%d) = %d", at, e)
		}
	}
	b.commit(x)
	if n := b.view().Next; n != next {
		b.t.Fatalf("the next ID is %d; want %d", n, next)
	}
}

// The last number that there is, and none.
func TestP15_3NoNumberIsLeft(t *testing.T) {
	b := sample(t)
	b.do(snap("s", "a"), create("p", 9), write("p", 8, full(8)))
	b.setPartial(true, "p")
	whole, over := b.export("a", ""), b.export("a", "s")
	b.lastIDs(1 << 30)
	b.imports("n", whole)
	b.checkVolume(api.Volume{Name: "n", ID: 1 << 30, Size: 9, Mapped: spans(2, 4)})
	b.checkRefused("m", whole, api.ErrCatalogIDs)
	b.checkRefused("m", over, api.ErrCatalogIDs)
	b.checkRefused("n", over, api.ErrStreamTaken)
	// The Partial one is gone all the same.
	before := b.tells("p")
	free := b.view().Free
	b.checkImport("p", whole, api.ErrCatalogIDs)
	b.checkNone("p")
	if v := b.view(); b.tells() != before || v.Free != free+4 || v.Next != 1<<30+1 {
		t.Errorf("behind an Import for which no number was left: %v", v)
	}
	b.checkFine("behind it")
}

// A pool whose last number goes with an Import that is refused for room.
func TestP15_3TheLastNumberIsTaken(t *testing.T) {
	b := made(t, 4)
	b.lastIDs(1 << 30)
	data := laid("x", 9, "", 0, has(0, full(1), full(2)))
	b.checkImport("n", data, api.ErrSpaceFull)
	if v := b.view(); v.Next != 1<<30+1 || v.Free != 4 || len(v.Volumes) != 0 {
		t.Errorf("behind it: %v", v)
	}
	b.checkRefused("n", data, api.ErrCatalogIDs)
}

// A block that has as many references as may be (which no operations come to): that is told, and the volume is gone.
func TestP15_3NoReferenceIsLeft(t *testing.T) {
	for _, which := range []string{"the root", "a data block"} {
		b := sample(t)
		b.do(snap("s", "a"), write("a", 8, full(8)))
		data := b.export("a", "s")
		x := b.begin()
		v, e := b.p.Catalog().Find(x, "s")
		block := v.Root
		if which == "a data block" {
			block, e = b.p.Map().Find(x, v.Root, 2)
		}
		for e == api.OK {
			e = b.p.Space().Ref(x, block)
		}
		if e != api.ErrSpaceRefs {
			t.Fatalf("Ref = %d", e)
		}
		b.commit(x)
		before, free := b.tells(), b.view().Free
		b.checkImport("n", data, api.ErrSpaceRefs)
		b.checkNone("n")
		if b.tells() != before || b.view().Free != free {
			t.Errorf("where %s has no reference left, Import changes what the pool tells", which)
		}
	}
}

// lastSeqs gives the same pool behind so many transactions that of the journal's numbers just so many are left. No calls come
// to it in a test's time.
func (b *bench) lastSeqs(left int) *bench {
	b.t.Helper()
	image := found(b.t, b.d).crashed(nil)
	const seqFrom = 6
	changed := 0
	for at := 0; at < len(image); at += 512 {
		kind, life, body, e := field.Unstamp(image[at : at+512])
		if e != api.OK || kind != 2 || len(body) != seqFrom+8 {
			continue
		}
		seq, e := field.Pack(api.Field{Width: 8, Value: api.MaxSeq - left})
		if e != api.OK {
			b.t.Fatalf("Pack = %d", e)
		}
		block, e := field.Stamp(kind, life, append(body[:seqFrom], seq...))
		if e != api.OK {
			b.t.Fatalf("Stamp = %d", e)
		}
		copy(image[at:], block)
		changed++
	}
	if changed == 0 {
		b.t.Fatalf("no head of a journal is found")
	}
	return opened(b.t, image)
}

// What Commit is refused for goes up. Nothing can be taken back then: what is there is Partial.
func TestR2WhatCommitAnswersGoesUp(t *testing.T) {
	for left := range 5 {
		b := sample(t).lastSeqs(left)
		before := b.tells()
		data := laid("x", 9, "", 0, has(0, full(1), full(2)))
		want := api.ErrJournalSeq
		if left == 4 {
			want = api.OK
		}
		b.checkImport("n", data, want)
		v, ok := b.volume("n")
		if ok != (left > 0) || v.Partial != (left > 0 && left < 4) || b.tells("n") != before {
			t.Errorf("with %d numbers left there is %v (there: %v)", left, v, ok)
		}
	}
}
