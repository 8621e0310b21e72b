package space

import (
	"bytes"

	"cistern/api"
	"cistern/field"
	"cistern/txn"
)

// A table lies in pages, each a block: those of the index, and behind them those of the counts. A page has a
// heading and a body. The body of a page of counts is a group: a byte for each of its pool blocks. The index
// has an entry for each group: how many of its counts are not 0, and how often that was changed. In the
// heading of the first page stands the table's head too.
const (
	headingSize = 32
	bodySize    = api.BlockSize - headingSize
	groupSize   = bodySize
	entrySize   = takenWidth + turnsWidth
	indexSize   = bodySize / entrySize
)

// What a heading begins with, and the widths of the numbers of a table.
const (
	mark        = "cistern's counts"
	roomWidth   = 3
	numberWidth = 2
	sizeWidth   = 3
	lifeWidth   = 5
	takenWidth  = 2
	turnsWidth  = 6
)

// Where the numbers of the head stand.
const (
	headFrom = len(mark) + roomWidth + numberWidth
	headTo   = headFrom + sizeWidth + lifeWidth
	unborn   = 0
	lastLife = 1<<(8*lifeWidth) - 1
)

// place is where a table lies, and of which room.
type place struct {
	from int
	room int
}

// head is what a table says of itself. Its life tells it from the table that it was laid over. It is unborn until a
// count is changed first: only then is it seen what is committed there, whatever the transaction wrote over it.
type head struct {
	size int
	life int
}

func (p place) countPages() int { return parts(p.room, groupSize) }

func (p place) indexPages() int { return parts(p.countPages(), indexSize) }

func (p place) pages() int { return p.indexPages() + p.countPages() }

// countsPage gives the number of the page in which a group's counts stand.
func (p place) countsPage(group int) int { return p.indexPages() + group }

// parts tells how many parts of that size hold so many.
func parts(count int, size int) int { return (count + size - 1) / size }

func groupOf(b int) int { return (b - 1) / groupSize }

func slotOf(b int) int { return (b - 1) % groupSize }

func blockOf(group int, slot int) int { return group*groupSize + slot + 1 }

// heading is what the page of that number begins with, in every table of this room and in no other block.
func (p place) heading(number int) []byte {
	return append([]byte(mark), packed(api.Field{Width: roomWidth, Value: p.room}, api.Field{Width: numberWidth, Value: number})...)
}

func (p place) isPage(block []byte, number int) bool {
	return bytes.HasPrefix(block, p.heading(number))
}

// blank gives a page of zeros.
func (p place) blank(number int) []byte {
	page := make([]byte, api.BlockSize)
	copy(page, p.heading(number))
	return page
}

// packed is asked for what its widths hold alone: numbers of rooms, sizes, pages and lives.
func packed(fields ...api.Field) []byte {
	data, _ := field.Pack(fields...)
	return data
}

func headOf(page []byte) head {
	n, _ := field.Unpack(page[headFrom:headTo], sizeWidth, lifeWidth)
	return head{size: n[0], life: n[1]}
}

func (h head) put(page []byte) {
	copy(page[headFrom:headTo], packed(api.Field{Width: sizeWidth, Value: h.size}, api.Field{Width: lifeWidth, Value: h.life}))
}

// lifeBehind gives a life for a table that is laid over one of that life.
func lifeBehind(life int) int { return life%lastLife + 1 }

// takenAt tells how many counts of a group are not 0.
func takenAt(page []byte, i int) int { return number(page[entryFrom(i):][:takenWidth]) }

// turnsAt tells how often that was changed.
func turnsAt(page []byte, i int) int { return number(page[entryFrom(i)+takenWidth:][:turnsWidth]) }

// number reads what Pack has laid. Unpack would make a list of it, and a whole index is gone through
// where a free pool block is looked for.
func number(data []byte) int {
	n := 0
	for i := len(data) - 1; i >= 0; i-- {
		n = n<<8 | int(data[i])
	}
	return n
}

// putEntry answers false, where no table has such an entry.
func putEntry(page []byte, i int, taken int, turns int) bool {
	data, e := field.Pack(api.Field{Width: takenWidth, Value: taken}, api.Field{Width: turnsWidth, Value: turns})
	copy(page[entryFrom(i):], data)
	return e == api.OK
}

func entryFrom(i int) int { return headingSize + i*entrySize }

// checkPages answers what a Write of one of the pages would.
func (p place) checkPages(t *txn.Txn) api.Errno {
	for i := range p.pages() {
		if _, e := t.Read(p.from + i); e != api.OK {
			return e
		}
	}
	return api.OK
}

// lay writes a table without references.
func (p place) lay(t *txn.Txn, h head) api.Errno {
	for i := range p.pages() {
		page := p.blank(i)
		if i == 0 {
			h.put(page)
		}
		if e := t.Write(p.from+i, page); e != api.OK {
			return e
		}
	}
	return api.OK
}
