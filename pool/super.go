package pool

import (
	"bytes"

	"cistern/api"
	"cistern/cache"
	"cistern/catalog"
	"cistern/disk"
	"cistern/field"
	"cistern/journal"
	"cistern/radix"
	"cistern/space"
	"cistern/txn"
)

// A superblock is a stamped block of numbers: the mark, the disk's number of blocks, and where the parts lie.
const (
	superKind   = 90
	superSeq    = 0
	mark        = 0x6e726574736963 // "cistern", the lowest byte first
	markWidth   = 8
	numberWidth = 3
)

// finding is what stands on a disk.
type finding interface{ isFinding() }

// fitting is a pool that was laid on a disk of as many blocks.
type fitting struct{ layout }

// foreign is a pool that was laid on a disk of another number of blocks.
type foreign struct{}

// nothing is all that Format did not lay.
type nothing struct{}

func (fitting) isFinding() {}
func (foreign) isFinding() {}
func (nothing) isFinding() {}

// superblock lays fields as a superblock.
func superblock(fields ...api.Field) ([]byte, api.Errno) {
	body, e := field.Pack(fields...)
	if e != api.OK {
		return nil, e
	}
	return field.Stamp(superKind, superSeq, body)
}

// superblock says of a pool all by which its parts are found.
func (l layout) superblock() ([]byte, api.Errno) {
	fields := []api.Field{{Width: markWidth, Value: mark}}
	for _, n := range []int{l.blocks, l.bound, l.journal.from, l.journal.count, l.counts.from, l.entries.from, l.slot.from, l.base} {
		fields = append(fields, api.Field{Width: numberWidth, Value: n})
	}
	return superblock(fields...)
}

// find looks for what stands on a disk.
func find(d *disk.Disk) (finding, api.Errno) {
	block, e := d.Read(superAt)
	if e != api.OK {
		return nil, e
	}
	here, e := d.Blocks()
	if e != api.OK {
		return nil, e
	}
	l, ok := laidBy(block)
	switch {
	case !ok:
		return nothing{}, api.OK
	case l.blocks != here:
		return foreign{}, api.OK
	}
	return fitting{l}, api.OK
}

// laidBy gives the layout that a superblock says, false: it is none that Format lays.
func laidBy(block []byte) (layout, bool) {
	_, _, body, e := field.Unstamp(block)
	if e != api.OK || len(body) < markWidth+numberWidth {
		return layout{}, false
	}
	n, e := field.Unpack(body[:markWidth+numberWidth], markWidth, numberWidth)
	if e != api.OK || boundOf(n[1]) == 0 {
		return layout{}, false
	}
	l := layoutOf(n[1])
	own, e := l.superblock()
	return l, e == api.OK && bytes.Equal(own, block)
}

// format lays an empty pool. The old superblock is gone ahead of all else, and the new one comes behind it:
// so what is laid in part is found by nobody.
func (l layout) format(d *disk.Disk, capacity int) api.Errno {
	c, e := cache.New(d, api.MaxRoom)
	if e != api.OK {
		return e
	}
	return inTurn(
		func() api.Errno { return c.Write(superAt, make([]byte, api.BlockSize)) },
		c.Flush,
		func() api.Errno { return journal.Format(c, l.journal.from, l.journal.count) },
		func() api.Errno { return l.layParts(c, capacity) },
		func() api.Errno { return l.laySuperblock(c) },
		c.Flush,
	)
}

// inTurn does the steps in their order, up to the first one that is refused.
func inTurn(steps ...func() api.Errno) api.Errno {
	for _, step := range steps {
		if e := step(); e != api.OK {
			return e
		}
	}
	return api.OK
}

// layParts lays the tables and the slot, so that they last.
func (l layout) layParts(c *cache.Cache, capacity int) api.Errno {
	s, e := l.store(c)
	if e != api.OK {
		return e
	}
	t, e := s.Begin()
	if e != api.OK {
		return e
	}
	return inTurn(
		func() api.Errno { return space.Format(t, l.counts.from, l.bound, capacity) },
		func() api.Errno { return catalog.Format(t, l.entries.from) },
		func() api.Errno { return l.writeSlot(t, api.Slot{}) },
		t.Commit,
		s.Flush,
	)
}

func (l layout) laySuperblock(c *cache.Cache) api.Errno {
	block, e := l.superblock()
	if e != api.OK {
		return e
	}
	return c.Write(superAt, block)
}

func (l layout) store(c *cache.Cache) (*txn.Store, api.Errno) {
	j, e := journal.Open(c, l.journal.from, l.journal.count)
	if e != api.OK {
		return nil, e
	}
	return txn.Open(j)
}

// open gives the pool of which the superblock stands there. Where a part of it does not, Format has not made it so.
func (l layout) open(d *disk.Disk) (*Pool, api.Errno) {
	p, e := l.openParts(d)
	switch e {
	case api.OK:
		return p, api.OK
	case api.ErrJournalNone, api.ErrCatalogForm:
		return nil, api.ErrPoolNone
	}
	return nil, e
}

func (l layout) openParts(d *disk.Disk) (*Pool, api.Errno) {
	c, e := cache.New(d, api.MaxRoom)
	if e != api.OK {
		return nil, e
	}
	p := &Pool{layout: l, disk: d}
	if p.Store, e = l.store(c); e != api.OK {
		return nil, e
	}
	if p.space, e = space.Open(p.Store, l.counts.from, l.bound); e != api.OK {
		return nil, e
	}
	if p.maps, e = radix.New(p.space, l.base); e != api.OK {
		return nil, e
	}
	if p.catalog, e = catalog.Open(p.Store, l.entries.from); e != api.OK {
		return nil, e
	}
	return p, api.OK
}
