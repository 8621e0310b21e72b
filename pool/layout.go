package pool

import (
	"sort"

	"cistern/api"
	"cistern/catalog"
	"cistern/space"
)

// What a pool needs beside its pool blocks, as chapter 9 has it.
const (
	ownBlocks  = 256
	ownPortion = 16
)

// The parts of a pool of which all pools have one of the same size.
const (
	superAt      = 0
	superBlocks  = 1
	otherWrites  = 37 // what a transaction writes at most beside the tables and the slot
	journalSpare = 4  // by so much is half of a journal greater than its greatest transaction
)

// layout is where the parts of a pool lie, one behind the other. It hangs on the disk's number of blocks alone:
// so whatever pool stood on a disk, its parts lay where those of the next one do.
type layout struct {
	blocks  int // of the disk
	bound   int // how many pool blocks there may be
	journal run
	counts  run
	entries run
	slot    run
	base    int // where pool block 1 lies
}

// run is so many blocks, one behind the other.
type run struct {
	from  int
	count int
}

func (r run) end() int { return r.from + r.count }

// layoutOf is asked for a number of blocks that has a bound.
func layoutOf(blocks int) layout {
	l := layout{blocks: blocks, bound: boundOf(blocks)}
	tables, _ := space.Blocks(l.bound)
	most := tables + catalog.Blocks() + slotBlocks + otherWrites
	l.journal = run{from: superAt + superBlocks, count: 2 * (most + journalSpare)}
	l.counts = run{from: l.journal.end(), count: tables}
	l.entries = run{from: l.counts.end(), count: catalog.Blocks()}
	l.slot = run{from: l.entries.end(), count: slotBlocks}
	l.base = l.slot.end()
	return l
}

func isCapacity(capacity int) bool { return capacity >= 1 && capacity <= api.MaxCapacity }

func needed(capacity int) int { return capacity + capacity/ownPortion + ownBlocks }

// boundOf gives the greatest capacity that a disk of so many blocks can hold, 0: it holds no pool.
func boundOf(blocks int) int {
	return sort.Search(api.MaxCapacity, func(c int) bool { return needed(c+1) > blocks })
}
