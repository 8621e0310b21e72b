package radix_test

import (
	"bytes"
	"testing"

	"cistern/api"
	"cistern/radix"
)

// short gives maps over the bench's space of which so many pool blocks lie in the store, and those behind them do not.
func (b *bench) short(there int) *radix.Map {
	b.t.Helper()
	m, e := radix.New(b.p, b.base+b.size-there)
	if e != api.OK {
		b.t.Fatalf("New = %d", e)
	}
	return m
}

// checkUnwritten holds that the transaction has no writes, by its Commit; it begins the next one.
func (b *bench) checkUnwritten(what string) {
	b.t.Helper()
	before := b.seq()
	b.commit()
	if after := b.seq(); after != before {
		b.t.Errorf("%s has left writes: the journal has %d transactions; want %d", what, after, before)
	}
}

// image gives all that the disk is seen to hold.
func (b *bench) image() []byte {
	b.t.Helper()
	pending, e := b.d.Pending()
	if e != api.OK {
		b.t.Fatalf("Pending() = %d", e)
	}
	image, e := b.d.Crash(firstPlaces(len(pending)))
	if e != api.OK {
		b.t.Fatalf("Crash = %d", e)
	}
	return image
}

// However many of the new pool blocks the store has, an Assign for which it has not all is refused, and writes nothing.
func TestR2ARefusedAssignLeavesNoWrites(t *testing.T) {
	for there := range 6 {
		b := made(t, 10)
		m := b.short(there)
		r, d, e := m.Assign(b.x, 0, 5)
		if there >= 4 {
			if r != 1 || d != 4 || e != api.OK {
				t.Errorf("Assign(t, 0, 5), where %d pool blocks are there = %d, %d, %d; want 1, 4", there, r, d, e)
			}
			continue
		}
		if r != 0 || d != 0 || e != api.ErrJournalAt {
			t.Errorf("Assign(t, 0, 5), where %d pool blocks are there = %d, %d, %d; want ErrJournalAt", there, r, d, e)
		}
		b.checkUnwritten("a refused Assign")
	}
}

// A base that leads to the journal's own blocks, to the first or to those behind it, or beyond all blocks.
func TestR2ABaseThatLeadsElsewhereLeavesNoWrites(t *testing.T) {
	b := made(t, 10)
	for _, base := range []int{0, 1, journalBlocks - 1, journalBlocks - 9, b.base + 10, b.base + 11, 524287, 524288} {
		m, e := radix.New(b.p, base)
		if e != api.OK {
			t.Fatalf("New(s, %d) = %d", base, e)
		}
		if r, d, e := m.Assign(b.x, 0, 5); r != 0 || d != 0 || e != api.ErrJournalAt {
			t.Errorf("Assign(t, 0, 5) with a base of %d = %d, %d, %d; want ErrJournalAt", base, r, d, e)
		}
		b.checkUnwritten("a refused Assign")
	}
}

// pair gives a map of the logical blocks 5 and 6 in the pool blocks 1 to 5.
func (b *bench) pair(m *radix.Map) int {
	b.t.Helper()
	root := 0
	for _, l := range []int{5, 6} {
		r, _, e := m.Assign(b.x, root, l)
		if e != api.OK {
			b.t.Fatalf("Assign(t, %d, %d) = %d", root, l, e)
		}
		root = r
	}
	return root
}

func (b *bench) checkAway(m *radix.Map, root int, l int) {
	b.t.Helper()
	if r, d, e := m.Assign(b.x, root, l); r != 0 || d != 0 || e != api.ErrJournalAt {
		b.t.Errorf("Assign(t, %d, %d) = %d, %d, %d; want ErrJournalAt", root, l, r, d, e)
	}
}

func (b *bench) checkDropAway(m *radix.Map, root int, from int, to int) {
	b.t.Helper()
	if r, e := m.Drop(b.x, root, from, to); r != 0 || e != api.ErrJournalAt {
		b.t.Errorf("Drop(t, %d, %d, %d) = %d, %d; want ErrJournalAt", root, from, to, r, e)
	}
}

// Writes of a map that needs the data block alone, one node and it, and so on; and of a map that is shared.
func TestR2AnAssignThatIsRefusedForEachNeed(t *testing.T) {
	for need, l := range []int{7, 64, 4096} {
		for there := 5; there <= 6+need; there++ {
			b := made(t, 20)
			m := b.short(there)
			r := b.pair(m)
			b.commit()
			if there == 6+need {
				if q, d, e := m.Assign(b.x, r, l); q != r || d != there || e != api.OK {
					t.Errorf("Assign(t, r, %d), where all is there = %d, %d, %d; want %d, %d", l, q, d, e, r, there)
				}
				continue
			}
			b.checkAway(m, r, l)
			b.checkUnwritten("a refused Assign")
		}
	}
}

func TestR2ARefusedDropLeavesNoWrites(t *testing.T) {
	for there := 5; there <= 8; there++ {
		b := made(t, 20)
		m := b.short(there)
		r := b.pair(m)
		if e := m.Share(b.x, r); e != api.OK {
			t.Fatalf("Share = %d", e)
		}
		b.commit()
		if there == 8 {
			if q, e := m.Drop(b.x, r, 5, 6); q != 6 || e != api.OK {
				t.Errorf("Drop(t, r, 5, 6), where all is there = %d, %d; want 6", q, e)
			}
			continue
		}
		b.checkDropAway(m, r, 5, 6)
		b.checkUnwritten("a refused Drop")
		b.checkAway(m, r, 5)
		b.checkUnwritten("a refused Assign")
		// A drop of all copies nothing.
		if q, e := m.Drop(b.x, r, 0, all); q != 0 || e != api.OK {
			t.Errorf("Drop(t, r, 0, %d) = %d, %d; want 0", all, q, e)
		}
	}
}

// crowded gives a map of the logical blocks 0 and 1 that is shared, and of which block 0 has 250 references: all of it in
// the pool blocks 1 to 1001, and committed.
func (b *bench) crowded(m *radix.Map) int {
	b.t.Helper()
	root := 0
	for _, l := range []int{0, 1} {
		root, _, _ = m.Assign(b.x, root, l)
	}
	for i := range 250 {
		if e := m.Share(b.x, root); e != api.OK {
			b.t.Fatalf("Share = %d", e)
		}
		if _, _, e := m.Assign(b.x, root, 1); i < 249 && e != api.OK {
			b.t.Fatalf("Assign = %d", e)
		}
		if i%40 == 0 {
			b.commit()
		}
	}
	b.commit()
	if n := b.size - b.free(); n != 1001 {
		b.t.Fatalf("%d pool blocks are taken", n)
	}
	return root
}

// What else a call is refused for leaves no writes either; and what the chapter names comes ahead of what the store has not.
func TestR2CallsThatAreRefusedLeaveNoWrites(t *testing.T) {
	for size, wants := range map[int][4]api.Errno{
		1003: {api.ErrRadixBlock, api.ErrRadixRange, api.ErrSpaceFull, api.ErrSpaceFull},
		1100: {api.ErrRadixBlock, api.ErrRadixRange, api.ErrSpaceRefs, api.ErrSpaceRefs},
	} {
		b := made(t, size)
		m := b.short(1001)
		r := b.crowded(m)
		if q, d, e := m.Assign(b.x, r, -1); q != 0 || d != 0 || e != wants[0] {
			t.Errorf("Assign(t, r, -1) = %d, %d, %d; want %d", q, d, e, wants[0])
		}
		if q, e := m.Drop(b.x, r, 4, 3); q != 0 || e != wants[1] {
			t.Errorf("Drop(t, r, 4, 3) = %d, %d; want %d", q, e, wants[1])
		}
		if q, d, e := m.Assign(b.x, r, 1); q != 0 || d != 0 || e != wants[2] {
			t.Errorf("Assign(t, r, 1) in a pool of %d = %d, %d, %d; want %d", size, q, d, e, wants[2])
		}
		if q, e := m.Drop(b.x, r, 1, 2); q != 0 || e != wants[3] {
			t.Errorf("Drop(t, r, 1, 2) in a pool of %d = %d, %d; want %d", size, q, e, wants[3])
		}
		b.checkRefused(m, b.x, size+1, 5, 0, all, api.ErrRadixNode)
		b.checkRefused(m, b.x, 2, 5, 0, all, api.ErrRadixNode)
		b.checkUnwritten("a refused call")
	}
}

// aside does what a transaction of its own writes and marks does, with refused calls between, or without them.
func (b *bench) aside(m *radix.Map, r int, refused bool) {
	b.t.Helper()
	refuse := func() {
		if refused {
			b.checkAway(m, r, 5)
			b.checkAway(m, r, 7)
			b.checkAway(m, 0, 5)
			b.checkDropAway(m, r, 5, 6)
			b.checkDropAway(m, r, 0, 6)
		}
	}
	write := func(at int, name byte) {
		if e := b.x.Write(at, full(name)); e != api.OK {
			b.t.Fatalf("Write(%d) = %d", at, e)
		}
	}
	checkMark := func(want int) {
		if n := b.mark(); n != want {
			b.t.Errorf("Mark() = %d; want %d", n, want)
		}
	}
	refuse()
	write(b.base, 'A')
	refuse()
	checkMark(0)
	refuse()
	write(b.base, 'B')
	if n, e := b.p.Alloc(b.x); n != 7 || e != api.OK {
		b.t.Errorf("Alloc(t) = %d, %d; want 7", n, e)
	}
	checkMark(1)
	write(b.base+1, 'C')
	refuse()
	b.back(1)
	refuse()
	checkMark(2)
	refuse()
	write(b.base+2, 'D')
	b.back(1)
	checkMark(2)
	if n, e := b.p.Unref(b.x, 7); n != 0 || e != api.OK {
		b.t.Errorf("Unref(t, 7) = %d, %d; want 0", n, e)
	}
	refuse()
}

// Two pools that differ in refused calls alone are the same, to the last byte of their disks.
func TestR2RefusedCallsAmongWritesAndMarks(t *testing.T) {
	for _, end := range []string{"Commit", "Back", "Abort"} {
		var images [2][]byte
		for i := range images {
			b := made(t, 40)
			m := b.short(7)
			r := b.pair(m)
			if e := m.Share(b.x, r); e != api.OK {
				t.Fatalf("Share = %d", e)
			}
			if n, e := b.p.Alloc(b.x); n != 6 || e != api.OK {
				t.Fatalf("Alloc(t) = %d, %d", n, e)
			}
			b.commit()
			b.aside(m, r, i == 1)
			switch end {
			case "Back":
				b.back(0)
			case "Abort":
				b.abort()
			}
			b.commit()
			images[i] = b.image()
		}
		if !bytes.Equal(images[0], images[1]) {
			t.Errorf("refused calls ahead of %s leave another disk", end)
		}
	}
}
