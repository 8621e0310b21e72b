package space

import (
	"cistern/api"
	"cistern/txn"
)

// table is one of the two that say whether a pool block is free: its count is 0 in both.
type table interface {
	Read(at int) ([]byte, api.Errno)
}

// seen is the table as the transaction sees it.
type seen struct{ *txn.Txn }

// committed is the table that the transaction began with.
type committed struct {
	*txn.Store
	stands bool // false: there was none
}

// view is what a call of a Space sees of its table. Each call makes its own, and keeps nothing of it.
type view struct {
	*Space
	head
	now seen
}

// look answers what each method asks first.
func (x *Space) look(t *txn.Txn) (view, api.Errno) {
	if x == nil {
		return view{}, api.ErrNil
	}
	if e := x.store.Owns(t); e != api.OK {
		return view{}, e
	}
	now := seen{t}
	page, e := x.page(now, 0)
	if e != api.OK {
		return view{}, e
	}
	h := headOf(page)
	if h.size < 1 || h.size > x.room {
		return view{}, api.ErrSpaceForm
	}
	return view{Space: x, head: h, now: now}, api.OK
}

// page gives a page of one of the two tables.
func (p place) page(of table, number int) ([]byte, api.Errno) {
	block, e := of.Read(p.from + number)
	if e != api.OK {
		return nil, e
	}
	ok := p.isPage(block, number)
	switch of := of.(type) {
	case committed:
		if !ok || !of.stands {
			return p.blank(number), api.OK
		}
	case seen:
		if !ok {
			return nil, api.ErrSpaceForm
		}
	}
	return block, api.OK
}

func (v view) has(b int) bool { return b >= 1 && b <= v.size }

// begun gives the table that the transaction began with. One that is unborn has no references and is as good as none.
// Where it is the one that is seen, each page of it that is asked was a page then. Where the transaction has laid its
// table over it, it can be that some of it was gone before: then there was none.
func (v view) begun() (committed, api.Errno) {
	block, e := v.store.Read(v.from)
	if e != api.OK || !v.isPage(block, 0) {
		return committed{Store: v.store}, e
	}
	switch headOf(block).life {
	case unborn:
		return committed{Store: v.store}, api.OK
	case v.life:
		return committed{Store: v.store, stands: true}, api.OK
	}
	whole, e := v.isWhole()
	return committed{Store: v.store, stands: whole}, e
}

// isWhole tells whether all pages of a table are committed.
func (v view) isWhole() (bool, api.Errno) {
	for i := range v.pages() {
		block, e := v.store.Read(v.from + i)
		if e != api.OK || !v.isPage(block, i) {
			return false, e
		}
	}
	return true, api.OK
}

// change makes of a pool block's count what is to be made of it.
func (v view) change(b int, do func(count int) (int, api.Errno)) api.Errno {
	if !v.has(b) {
		return api.ErrSpaceBlock
	}
	number := v.countsPage(groupOf(b))
	page, e := v.page(v.now, number)
	if e != api.OK {
		return e
	}
	at := headingSize + slotOf(b)
	was := int(page[at])
	count, e := do(was)
	if e != api.OK {
		return e
	}
	page[at] = byte(count)
	// The index comes first: it may be refused, and then nothing is changed.
	if e := v.turn(groupOf(b), isTaken(count)-isTaken(was)); e != api.OK {
		return e
	}
	return v.now.Write(v.from+number, page)
}

func isTaken(count int) int { return min(count, 1) }

// turn notes in the index that more counts of a group are not 0, or fewer.
func (v view) turn(group int, more int) api.Errno {
	if more == 0 {
		return api.OK
	}
	number, i := group/indexSize, group%indexSize
	page, before, e := v.both(committed{Store: v.store, stands: true}, number)
	if e != api.OK {
		return e
	}
	// More than the table has that is committed, also where the transaction has laid its own from nothing:
	// so turns that are as many in both say that the same counts are 0.
	turns := max(turnsAt(page, i), turnsAt(before, i)) + 1
	if !putEntry(page, i, takenAt(page, i)+more, turns) {
		return api.ErrSpaceForm
	}
	if e := v.now.Write(v.from+number, page); e != api.OK || v.life != unborn {
		return e
	}
	return v.bear()
}

// bear gives the table a life: another one than the table has that is committed.
func (v view) bear() api.Errno {
	old, e := v.page(committed{Store: v.store, stands: true}, 0)
	if e != api.OK {
		return e
	}
	return v.say(head{size: v.size, life: lifeBehind(headOf(old).life)})
}

func (v view) resize(size int) api.Errno { return v.say(head{size: size, life: v.life}) }

// say changes the table's head.
func (v view) say(h head) api.Errno {
	page, e := v.page(v.now, 0)
	if e != api.OK {
		return e
	}
	h.put(page)
	return v.now.Write(v.from, page)
}
