package catalog

import (
	"slices"

	"cistern/api"
	"cistern/txn"
)

// A table lies in pages, each a block: a heading, and slots for entries. The heading has the mark, the page's number,
// and in the first page the next number.
const (
	mark        = "cistern's volumes"
	numberWidth = 1
	headingSize = 1 + len(mark) + numberWidth + idWidth
	pageSlots   = (api.BlockSize - headingSize) / slotSize
	pages       = (api.MaxVolumes + pageSlots - 1) / pageSlots
)

// none is the slot of what stands in none.
const none = -1

// table is what the blocks hold. A slot is empty where its entry is.
type table struct {
	next  int
	slots [api.MaxVolumes]api.Entry
}

// source is where a table is read from: a store, or a transaction.
type source interface {
	Read(at int) ([]byte, api.Errno)
}

// read gives the blocks in which a table lies.
func read(of source, from int) ([pages][]byte, api.Errno) {
	var blocks [pages][]byte
	for number := range blocks {
		block, e := of.Read(from + number)
		if e != api.OK {
			return [pages][]byte{}, e
		}
		blocks[number] = block
	}
	return blocks, api.OK
}

// load gives the table that lies there.
func load(of source, from int) (*table, api.Errno) {
	blocks, e := read(of, from)
	if e != api.OK {
		return nil, e
	}
	x := &table{}
	for number, block := range blocks {
		if !x.carry(&taking{bytesAt{block: block}}, number) {
			return nil, api.ErrCatalogForm
		}
	}
	return x, api.OK
}

// page gives a page as a block.
func (x *table) page(number int) []byte {
	block := make([]byte, api.BlockSize)
	x.carry(&laying{bytesAt{block: block}}, number)
	return block
}

// carry carries a page of the table to its bytes or from them. It answers false, if these are no such page.
func (x *table) carry(c carrier, number int) bool {
	head, here, next := mark, number, new(int)
	if number == 0 {
		next = &x.next
	}
	c.text(&head, len(mark))
	c.number(&here, numberWidth)
	c.number(next, idWidth)
	if head != mark || here != number {
		return false
	}
	parts := fields()
	first := number * pageSlots
	for i := range x.slots[first:min(first+pageSlots, len(x.slots))] {
		c.from(headingSize + i*slotSize)
		carryEntry(c, &x.slots[first+i], parts)
	}
	return true
}

// fits tells whether the table can be one: bytes that no catalog wrote can look like its pages.
func (x *table) fits() bool {
	if x.next < 1 || x.next > api.MaxID+1 {
		return false
	}
	for slot, entry := range x.slots {
		if entry != (api.Entry{}) && (x.check(entry) != api.OK || x.numbered(entry.ID) != slot) {
			return false
		}
	}
	return true
}

// check tells what an entry is refused for, wherever it is to stand.
func (x *table) check(entry api.Entry) api.Errno {
	if !IsName(entry.Name) {
		return api.ErrCatalogName
	}
	if !mayBe(entry) {
		return api.ErrCatalogEntry
	}
	if entry.ID >= x.next {
		return api.ErrCatalogID
	}
	if slot := x.named(entry.Name); slot != none && x.slots[slot].ID != entry.ID {
		return api.ErrCatalogTaken
	}
	return api.OK
}

// named gives the slot of the entry of that name.
func (x *table) named(name string) int {
	return slices.IndexFunc(x.slots[:], func(e api.Entry) bool { return e.ID != 0 && e.Name == name })
}

// numbered gives the slot of the entry of that ID.
func (x *table) numbered(id int) int {
	return slices.IndexFunc(x.slots[:], func(e api.Entry) bool { return e.ID != 0 && e.ID == id })
}

// empty gives an empty slot.
func (x *table) empty() int {
	return slices.IndexFunc(x.slots[:], func(e api.Entry) bool { return e.ID == 0 })
}

// sorted gives the entries, in the order that a function tells.
func (x *table) sorted(by func(a, b api.Entry) int) []api.Entry {
	var entries []api.Entry
	for _, entry := range x.slots {
		if entry.ID != 0 {
			entries = append(entries, entry)
		}
	}
	slices.SortFunc(entries, by)
	return entries
}

// view is what a call of a catalog sees of its table. Each call makes its own, and keeps nothing of it.
type view struct {
	*Catalog
	*table
	t *txn.Txn
}

// look answers what each method asks first.
func (c *Catalog) look(t *txn.Txn) (view, api.Errno) {
	if c == nil {
		return view{}, api.ErrNil
	}
	if e := c.store.Owns(t); e != api.OK {
		return view{}, e
	}
	x, e := load(t, c.from)
	if e != api.OK {
		return view{}, e
	}
	return view{Catalog: c, table: x, t: t}, api.OK
}

func (v view) put(slot int, entry api.Entry) api.Errno {
	v.slots[slot] = entry
	return v.write(slot / pageSlots)
}

func (v view) setNext(next int) api.Errno {
	v.next = next
	return v.write(0)
}

// write lays one page: no call changes more of a table.
func (v view) write(number int) api.Errno { return v.t.Write(v.from+number, v.page(number)) }
