package pool

import (
	"testing"

	"cistern/api"
	"cistern/catalog"
	"cistern/field"
	"cistern/journal"
	"cistern/space"
	"cistern/txn"
)

// Of every number of blocks that has a bound: the bound is the chapter's, the parts lie one behind the other on the
// disk, and the journal takes all that P9.11 names.
func TestP9_11LayoutsOfAllDisks(t *testing.T) {
	bound := 1
	for blocks := 257; blocks <= api.MaxBlocks; blocks++ {
		for bound < api.MaxCapacity && bound+1+(bound+1)/16+256 <= blocks {
			bound++
		}
		l := layoutOf(blocks)
		if l.blocks != blocks || l.bound != bound {
			t.Fatalf("the layout of %d blocks has the bound %d; want %d", blocks, l.bound, bound)
		}
		end := 1
		for _, r := range []run{l.journal, l.counts, l.entries, l.slot, {from: l.base, count: l.bound}} {
			if r.from != end {
				t.Fatalf("of %d blocks a part begins at %d; want %d", blocks, r.from, end)
			}
			end = r.end()
		}
		if end > blocks {
			t.Fatalf("of %d blocks the last part ends at %d", blocks, end)
		}
		tables, e := space.Blocks(bound)
		if e != api.OK || l.counts.count != tables || l.entries.count != catalog.Blocks() {
			t.Fatalf("of %d blocks the tables have %d and %d blocks", blocks, l.counts.count, l.entries.count)
		}
		if most, e := journal.Most(l.journal.count); e != api.OK || most < tables+catalog.Blocks()+l.slot.count+37 {
			t.Fatalf("of %d blocks a transaction may have %d, %d", blocks, most, e)
		}
	}
}

func TestP9_3BoundsOfDisksThatHoldNoPool(t *testing.T) {
	for _, blocks := range []int{-1, 0, 1, 100, 255, 256} {
		if n := boundOf(blocks); n != 0 {
			t.Errorf("the bound of %d blocks is %d", blocks, n)
		}
	}
	if n := boundOf(257); n != 1 {
		t.Errorf("the bound of 257 blocks is %d", n)
	}
}

// A superblock says its layout, and no other bytes do.
func TestP9_3Superblocks(t *testing.T) {
	for _, blocks := range []int{257, 258, 400, 5000, 278784, 524288} {
		l := layoutOf(blocks)
		block, e := l.superblock()
		if e != api.OK || len(block) != 512 {
			t.Fatalf("the superblock of %d blocks has %d bytes, %d", blocks, len(block), e)
		}
		if got, ok := laidBy(block); !ok || got != l {
			t.Errorf("the superblock of %d blocks says %v, %v", blocks, got, ok)
		}
	}
	numbers := func(n ...int) []api.Field {
		fields := []api.Field{{Width: markWidth, Value: mark}}
		for _, value := range n {
			fields = append(fields, api.Field{Width: numberWidth, Value: value})
		}
		return fields
	}
	for i, fields := range [][]api.Field{
		nil,
		numbers(),
		numbers(400),
		numbers(400, 136),
		numbers(256, 0, 0, 0, 0, 0, 0, 0),
		numbers(0, 0, 0, 0, 0, 0, 0, 0),
		numbers(1<<24-1, 0, 0, 0, 0, 0, 0, 0),
		numbers(400, 136, 1, 138, 139, 141, 148, 168),
		{{Width: 8, Value: mark + 1}, {Width: 3, Value: 400}},
		{{Width: 1, Value: 1}},
	} {
		block, e := superblock(fields...)
		if e != api.OK {
			t.Fatalf("superblock = %d", e)
		}
		if l, ok := laidBy(block); ok {
			t.Errorf("number %d says %v", i, l)
		}
	}
	if block, e := superblock(api.Field{Width: 1, Value: 256}); block != nil || e != api.ErrFieldValue {
		t.Errorf("a superblock of a number that its width does not hold: %d bytes, %d", len(block), e)
	}
}

// SlotHome tells where the slot of a pool lies, for tests that spoil it.
func SlotHome(p *Pool) (int, int) { return p.slot.from, p.slot.count }

// CountsHome tells where the counts lie.
func CountsHome(p *Pool) (int, int) { return p.counts.from, p.counts.count }

// EntriesHome tells where the catalog lies.
func EntriesHome(p *Pool) (int, int) { return p.entries.from, p.entries.count }

// JournalHome tells where the journal lies.
func JournalHome(p *Pool) (int, int) { return p.journal.from, p.journal.count }

// LaySlot lays a slot whatever it holds, for tests that need one that no call lays.
func LaySlot(p *Pool, t *txn.Txn, s api.Slot) api.Errno { return p.writeSlot(t, s) }

// SlotBytes gives the bytes of a slot.
func SlotBytes(s api.Slot) []byte { return slotBytes(s) }

// LayBytes lays any bytes where those of a slot stand. They say their own number, as a slot's do.
func LayBytes(p *Pool, t *txn.Txn, data []byte) {
	at := 0
	for from := 0; from == 0 || from < len(data); from += api.MaxBody {
		block, _ := field.Stamp(slotKind, at, data[from:min(from+api.MaxBody, len(data))])
		t.Write(p.slot.from+at, block)
		at++
	}
}
