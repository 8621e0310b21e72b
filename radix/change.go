package radix

import (
	"iter"

	"cistern/api"
)

// change is what becomes of what hangs at a spot; nil: it stays as it is. What is to be done is found first, so that
// a call can be refused ahead of all that it would do.
type change interface {
	// need tells how many new pool blocks it takes.
	need() int
}

// gone is the change to nothing.
type gone struct{}

// fresh is the change to a new data block.
type fresh struct{}

// turned is a change of a node's entries: in its place, if it is exclusive, else in a new node that takes its place.
type turned struct {
	*node
	own   bool
	parts [api.Fan]change
}

func (gone) need() int { return 0 }

func (fresh) need() int { return 1 }

func (c *turned) need() int {
	need := 0
	if !c.own {
		need = 1
	}
	for _, part := range c.parts {
		need += needOf(part)
	}
	return need
}

func needOf(c change) int {
	if c == nil {
		return 0
	}
	return c.need()
}

// copied goes through what a copy of the node names as the node does: it gets a reference more. What is changed gets
// none by the copy, or gets one and loses it by its own copy.
func (c *turned) copied() iter.Seq[int] {
	return func(yield func(int) bool) {
		for i, block := range c.entries {
			if !c.own && block != 0 && c.parts[i] == nil && !yield(block) {
				return
			}
		}
	}
}

// write finds what becomes of a spot by a write at l.
func (w walk) write(s spot, above bool, l int) (change, api.Errno) {
	x, e := w.hanging(s)
	if e != api.OK {
		return nil, e
	}
	own, e := w.isOwn(s, above)
	if e != api.OK {
		return nil, e
	}
	switch x := x.(type) {
	case *node:
		return w.turn(x, own, l)
	case data:
		if own {
			return nil, api.OK
		}
	case nil:
		if s.level < api.Levels {
			return w.turn(&node{spot: s}, own, l)
		}
	}
	return fresh{}, api.OK
}

func (w walk) turn(n *node, own bool, l int) (change, api.Errno) {
	slot := n.slot(l)
	part, e := w.write(n.under(slot), own, l)
	if e != api.OK || part == nil {
		return nil, e
	}
	c := &turned{node: n, own: own}
	c.parts[slot] = part
	return c, api.OK
}

// fill finds what becomes of a spot by writes at all of a range that is not mapped.
func (w walk) fill(s spot, above bool, r api.Range) (change, api.Errno) {
	x, e := w.hanging(s)
	if e != api.OK {
		return nil, e
	}
	switch x := x.(type) {
	case *node:
		return w.fillNode(x, above, r)
	case nil:
		if s.level < api.Levels {
			return w.fillNode(&node{spot: s}, above, r)
		}
		return fresh{}, api.OK
	}
	return nil, api.OK
}

func (w walk) fillNode(n *node, above bool, r api.Range) (change, api.Errno) {
	own, e := w.isOwn(n.spot, above)
	if e != api.OK {
		return nil, e
	}
	c := &turned{node: n, own: own}
	isChanged := false
	for i, next := range n.spots(r) {
		if c.parts[i], e = w.fill(next, own, r); e != api.OK {
			return nil, e
		}
		isChanged = isChanged || c.parts[i] != nil
	}
	if !isChanged {
		return nil, api.OK
	}
	return c, api.OK
}

// drop finds what becomes of a spot where a node hangs by a drop of a range.
func (w walk) drop(s spot, above bool, r api.Range) (change, api.Errno) {
	n, e := w.node(s)
	if e != api.OK {
		return nil, e
	}
	own, e := w.isOwn(s, above)
	if e != api.OK {
		return nil, e
	}
	c := &turned{node: n, own: own}
	for i, next := range n.spots(r) {
		switch {
		case next.block == 0:
		case next.isWithin(r):
			c.parts[i] = gone{}
		default:
			// Part of it lies in the range: so it is no data block.
			if c.parts[i], e = w.drop(next, own, r); e != api.OK {
				return nil, e
			}
		}
	}
	return c.settled(), api.OK
}

// settled gives the change of a node by a drop for what it is: nothing of it goes, all of it, or some.
func (c *turned) settled() change {
	goes, stays := false, false
	for i, block := range c.entries {
		switch c.parts[i].(type) {
		case gone:
			goes = true
		case *turned:
			goes, stays = true, true
		case nil:
			stays = stays || block != 0
		}
	}
	switch {
	case !goes:
		return nil
	case !stays:
		return gone{}
	}
	return c
}
