package radix

import (
	"iter"
	"slices"

	"cistern/api"
	"cistern/field"
)

// A node lies in a stamped block: its kind tells the level, its number the pool block, its body has the entries.
const (
	firstKind  = 70
	entryWidth = 3
)

// spot is a place in a map where something can hang: the root, or an entry of a node.
type spot struct {
	level int // 0 to 2: a node hangs there; 3: a data block
	first int // the first logical block that is found by it
	block int // the pool block that hangs there, 0: none does
}

// thing is what hangs at a spot: a node or a data block.
type thing interface {
	// spots goes through the entries that lead to a logical block of the range.
	spots(r api.Range) iter.Seq2[int, spot]
}

// node has entries: spots of the next level.
type node struct {
	spot
	entries [api.Fan]int
}

// data is a data block.
type data struct{ spot }

// everything is the range of all logical blocks.
func everything() api.Range { return api.Range{To: api.MaxSize} }

// span tells how many logical blocks are found by a spot of that level.
func span(level int) int {
	n := 1
	for range api.Levels - level {
		n *= api.Fan
	}
	return n
}

// part gives what of a range is found by the spot.
func (s spot) part(r api.Range) api.Range {
	return api.Range{From: max(r.From, s.first), To: min(r.To, s.first+span(s.level))}
}

// isWithin tells whether all that can be found by the spot is in the range.
func (s spot) isWithin(r api.Range) bool {
	return r.From <= s.first && s.first+span(s.level) <= r.To
}

// slot tells which entry leads on to a logical block.
func (n *node) slot(l int) int { return (l - n.first) / span(n.level+1) }

func (n *node) under(slot int) spot {
	return spot{level: n.level + 1, first: n.first + slot*span(n.level+1), block: n.entries[slot]}
}

func (n *node) spots(r api.Range) iter.Seq2[int, spot] {
	return func(yield func(int, spot) bool) {
		r := n.part(r)
		if r.From >= r.To {
			return
		}
		for i := n.slot(r.From); i <= n.slot(r.To-1); i++ {
			if !yield(i, n.under(i)) {
				return
			}
		}
	}
}

// Nothing hangs on a data block.
func (data) spots(api.Range) iter.Seq2[int, spot] { return func(func(int, spot) bool) {} }

// laid gives the block in which the node lies.
func (n *node) laid() ([]byte, api.Errno) {
	fields := make([]api.Field, api.Fan)
	for i, b := range n.entries {
		fields[i] = api.Field{Width: entryWidth, Value: b}
	}
	body, e := field.Pack(fields...)
	if e != api.OK {
		return nil, e
	}
	return field.Stamp(firstKind+n.level, n.block, body)
}

// nodeOf gives the node of a spot that lies in a block, false: it can be none, in a pool of that size.
func nodeOf(s spot, block []byte, size int) (*node, bool) {
	kind, number, body, e := field.Unstamp(block)
	if e != api.OK || kind != firstKind+s.level || number != s.block {
		return nil, false
	}
	entries, e := field.Unpack(body, slices.Repeat([]int{entryWidth}, api.Fan)...)
	if e != api.OK || slices.Max(entries) > size || slices.Max(entries) == 0 {
		return nil, false
	}
	n := &node{spot: s}
	copy(n.entries[:], entries)
	return n, true
}
