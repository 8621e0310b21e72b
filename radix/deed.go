package radix

import "cistern/api"

// deed is a change while it is being done.
type deed struct {
	walk
	taken []int  // new pool blocks that it has still to use
	data  []int  // the new data blocks
	lost  []spot // what loses a reference behind it
}

// assign gives the new root, and the data block at l.
func (w walk) assign(l int) (int, int, api.Errno) {
	c, e := w.write(w.root, true, l)
	if e != api.OK {
		return 0, 0, e
	}
	if c == nil {
		return w.asItIs(l)
	}
	root, data, e := w.do(c)
	if e != api.OK {
		return 0, 0, e
	}
	return root, data[0], api.OK
}

// asItIs gives the root, and the data block at l.
func (w walk) asItIs(l int) (int, int, api.Errno) {
	block, e := w.find(w.root, l)
	if e != api.OK {
		return 0, 0, e
	}
	return w.root.block, block, api.OK
}

// assignAll gives the new root, and the new data blocks.
func (w walk) assignAll(r api.Range) (int, []int, api.Errno) {
	c, e := w.fill(w.root, true, r)
	if e != api.OK {
		return 0, nil, e
	}
	return w.do(c)
}

// dropAll gives the new root.
func (w walk) dropAll(r api.Range) (int, api.Errno) {
	c, e := w.drop(w.root, true, r)
	if e != api.OK {
		return 0, e
	}
	root, _, e := w.do(c)
	return root, e
}

// do does what becomes of the root, unless it is refused. It gives the new root, and the new data blocks.
func (w walk) do(c change) (int, []int, api.Errno) {
	if c == nil {
		return w.root.block, nil, api.OK
	}
	if e := w.check(c); e != api.OK {
		return 0, nil, e
	}
	d := &deed{walk: w}
	if e := d.takeAll(c.need()); e != api.OK {
		return 0, nil, e
	}
	root, e := d.replace(w.root, c, true)
	if e != api.OK {
		return 0, nil, e
	}
	// What is let go comes last: where it is much, it makes looking for free pool blocks slow.
	for _, s := range d.lost {
		if e := w.letGo(s); e != api.OK {
			return 0, nil, e
		}
	}
	return root, d.data, api.OK
}

// check tells what a change is refused for. All of it is asked ahead of the first write: what is written in a
// transaction is there, be it as it was or not.
func (w walk) check(c change) api.Errno {
	ahead, e := w.Lowest(w.t, c.need())
	if e != api.OK {
		return e
	}
	if e := w.checkRefs(c); e != api.OK {
		return e
	}
	// The base can lead to blocks that the store does not have.
	for _, block := range ahead {
		if _, e := w.t.Read(w.place(block)); e != api.OK {
			return e
		}
	}
	return api.OK
}

// checkRefs tells whether all that a copy names as well can have a reference more.
func (w walk) checkRefs(c change) api.Errno {
	switch c := c.(type) {
	case *turned:
		for block := range c.copied() {
			refs, e := w.Count(w.t, block)
			if e != api.OK {
				return e
			}
			if refs >= api.MaxRefs {
				return api.ErrSpaceRefs
			}
		}
		for _, part := range c.parts {
			if e := w.checkRefs(part); e != api.OK {
				return e
			}
		}
	}
	return api.OK
}

// takeAll takes the new pool blocks, ahead of all else: so those of which check asked.
func (d *deed) takeAll(need int) api.Errno {
	for range need {
		block, e := d.Alloc(d.t)
		if e != api.OK {
			return e
		}
		d.taken = append(d.taken, block)
	}
	return api.OK
}

// take gives a new pool block.
func (d *deed) take() int {
	block := d.taken[0]
	d.taken = d.taken[1:]
	return block
}

// replace does a change of what hangs at a spot; it gives the pool block that hangs there then. Where what is above
// is exclusive, the old one has a reference less; a node that is copied stays as it is, and what it names too.
func (d *deed) replace(s spot, c change, above bool) (int, api.Errno) {
	block, e := d.make(c)
	if above && s.block != 0 && s.block != block {
		d.lost = append(d.lost, s)
	}
	return block, e
}

func (d *deed) make(c change) (int, api.Errno) {
	switch c := c.(type) {
	case fresh:
		block := d.take()
		d.data = append(d.data, block)
		return block, api.OK
	case *turned:
		return d.turn(c)
	}
	return 0, api.OK
}

func (d *deed) turn(c *turned) (int, api.Errno) {
	n := *c.node
	if !c.own {
		n.block = d.take()
	}
	for block := range c.copied() {
		if e := d.Ref(d.t, block); e != api.OK {
			return 0, e
		}
	}
	for i, part := range c.parts {
		if part == nil {
			continue
		}
		block, e := d.replace(c.under(i), part, c.own)
		if e != api.OK {
			return 0, e
		}
		n.entries[i] = block
	}
	if n == *c.node {
		return n.block, api.OK
	}
	return n.block, d.lay(&n)
}

func (d *deed) lay(n *node) api.Errno {
	block, e := n.laid()
	if e != api.OK {
		return e
	}
	return d.t.Write(d.place(n.block), block)
}

// letGo takes a reference from what hangs at a spot; where it was the last, from all that it names too.
func (w walk) letGo(s spot) api.Errno {
	left, e := w.Unref(w.t, s.block)
	if e != api.OK || left > 0 {
		return e
	}
	x, e := w.hanging(s)
	if e != api.OK {
		return e
	}
	for _, next := range x.spots(everything()) {
		if next.block == 0 {
			continue
		}
		if e := w.letGo(next); e != api.OK {
			return e
		}
	}
	return api.OK
}
