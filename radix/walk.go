package radix

import (
	"cistern/api"
	"cistern/txn"
)

// walk is what a call sees of a map. Each call makes its own, and keeps nothing of it.
type walk struct {
	*Map
	t    *txn.Txn
	size int
	root spot
}

// look answers what each call asks first.
func (m *Map) look(t *txn.Txn, root int) (walk, api.Errno) {
	if m == nil {
		return walk{}, api.ErrNil
	}
	size, e := m.Size(t)
	if e != api.OK {
		return walk{}, e
	}
	if root < 0 || root > size {
		return walk{}, api.ErrRadixNode
	}
	return walk{Map: m, t: t, size: size, root: spot{block: root}}, api.OK
}

// lookAt answers what each call with a logical block asks first.
func (m *Map) lookAt(t *txn.Txn, root int, l int) (walk, api.Errno) {
	w, e := m.look(t, root)
	if e == api.OK && (l < 0 || l >= api.MaxSize) {
		return walk{}, api.ErrRadixBlock
	}
	return w, e
}

// lookOver answers what each call with a range asks first.
func (m *Map) lookOver(t *txn.Txn, root int, from int, to int) (walk, api.Range, api.Errno) {
	w, e := m.look(t, root)
	if e == api.OK && (from < 0 || to > api.MaxSize || from > to) {
		return walk{}, api.Range{}, api.ErrRadixRange
	}
	return w, api.Range{From: from, To: to}, e
}

// place tells where a pool block lies in the store.
func (w walk) place(block int) int { return w.base + block - 1 }

// hanging gives what hangs at a spot, nil: nothing does.
func (w walk) hanging(s spot) (thing, api.Errno) {
	if s.block == 0 {
		return nil, api.OK
	}
	if s.level == api.Levels {
		return data{s}, api.OK
	}
	n, e := w.node(s)
	if e != api.OK {
		return nil, e
	}
	return n, api.OK
}

func (w walk) node(s spot) (*node, api.Errno) {
	block, e := w.t.Read(w.place(s.block))
	if e != api.OK {
		return nil, e
	}
	n, ok := nodeOf(s, block, w.size)
	if !ok {
		return nil, api.ErrRadixNode
	}
	return n, api.OK
}

// isOwn tells whether what hangs at a spot is exclusive, if what is above it is.
func (w walk) isOwn(s spot, above bool) (bool, api.Errno) {
	if !above || s.block == 0 {
		return false, api.OK
	}
	refs, e := w.Count(w.t, s.block)
	return refs == 1, e
}

func (w walk) find(s spot, l int) (int, api.Errno) {
	x, e := w.hanging(s)
	switch x := x.(type) {
	case *node:
		return w.find(x.under(x.slot(l)), l)
	case data:
		return x.block, e
	}
	return 0, e
}

// pairs adds the mapped blocks of a range that are found by a spot.
func (w walk) pairs(s spot, r api.Range, told []api.Pair) ([]api.Pair, api.Errno) {
	x, e := w.hanging(s)
	if e != api.OK {
		return nil, e
	}
	switch x := x.(type) {
	case data:
		return append(told, api.Pair{Logical: x.first, Block: x.block}), api.OK
	case *node:
		for _, next := range x.spots(r) {
			if told, e = w.pairs(next, r, told); e != api.OK {
				return nil, e
			}
		}
	}
	return told, api.OK
}

// telling is a walk that tells tiles.
type telling struct {
	walk
	counts func(b int) (int, api.Errno)
	isMet  func(node int) bool
	told   []api.Tile
}

// tell tells what hangs at a spot, and all that hangs on it, but for what hangs on a node that was met.
func (w *telling) tell(s spot, above bool) api.Errno {
	// A node that was met is read all the same: at a spot of another level it can be none.
	x, e := w.hanging(s)
	if e != api.OK || x == nil {
		return e
	}
	refs, e := w.counts(s.block)
	if e != api.OK {
		return e
	}
	own := above && refs == 1
	w.told = append(w.told, api.Tile{Level: s.level, Block: s.block, Refs: refs, Own: own})
	if s.level < api.Levels && w.isMet(s.block) {
		return api.OK
	}
	for _, next := range x.spots(everything()) {
		if e := w.tell(next, own); e != api.OK {
			return e
		}
	}
	return api.OK
}

// needAll tells how many new pool blocks it takes to map all of a range that is found by a spot.
func (w walk) needAll(s spot, above bool, r api.Range) (int, api.Errno) {
	x, e := w.hanging(s)
	if e != api.OK {
		return 0, e
	}
	switch x := x.(type) {
	case nil:
		return s.allNew(r), api.OK
	case *node:
		return w.needUnder(x, above, r)
	}
	return 0, api.OK
}

func (w walk) needUnder(n *node, above bool, r api.Range) (int, api.Errno) {
	own, e := w.isOwn(n.spot, above)
	if e != api.OK {
		return 0, e
	}
	need := 0
	for _, next := range n.spots(r) {
		more, e := w.needAll(next, own, r)
		if e != api.OK {
			return 0, e
		}
		need += more
	}
	if need > 0 && !own {
		need++
	}
	return need, api.OK
}

// allNew tells how many nodes and data blocks a range has that is found by a spot.
func (s spot) allNew(r api.Range) int {
	r = s.part(r)
	if r.From >= r.To {
		return 0
	}
	count := 0
	for level := s.level; level <= api.Levels; level++ {
		count += (r.To-1)/span(level) - r.From/span(level) + 1
	}
	return count
}
