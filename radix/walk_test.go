package radix_test

import (
	"slices"
	"testing"

	"cistern/api"
	"cistern/radix"
)

func TestP7_10Pairs(t *testing.T) {
	b := made(t, 400)
	mapped := seams()
	// The order in which they are mapped is another than the one in which they are told.
	order := slices.Clone(mapped)
	slices.Reverse(order)
	r, _ := b.assign(0, order...)
	b.commit()
	ends := append([]int{2, 61, 100, 5000, 200000, all}, mapped...)
	slices.Sort(ends)
	for i, from := range ends {
		for _, to := range ends[i:] {
			var want []api.Pair
			for _, l := range mapped {
				if l >= from && l < to {
					want = append(want, api.Pair{Logical: l, Block: b.find(r, l)})
				}
			}
			if got := b.pairs(r, from, to); !slices.Equal(got, want) {
				t.Errorf("Pairs(t, r, %d, %d) = %v; want %v", from, to, got, want)
			}
			if got := b.pairs(0, from, to); len(got) != 0 {
				t.Errorf("Pairs(t, 0, %d, %d) = %v; want none", from, to, got)
			}
		}
	}
}

// checkWalk holds a walk against the levels, references and owners that are wanted, and against what is counted.
func (b *bench) checkWalk(root int, want ...api.Tile) {
	b.t.Helper()
	ts := b.walk(root)
	for i, tile := range ts {
		if n := b.count(tile.Block); n != tile.Refs {
			b.t.Errorf("Walk tells %v; block %d has %d references", tile, tile.Block, n)
		}
		if tile.Level == 0 && tile.Block != root {
			b.t.Errorf("Walk of root %d begins with %v", root, tile)
		}
		ts[i].Block = 0
	}
	if !slices.Equal(ts, want) {
		b.t.Errorf("Walk(t, %d) = %v; want %v", root, ts, want)
	}
}

// tile gives what is wanted of a tile: what block it is, is looked at elsewhere.
func tile(level int, refs int, own bool) api.Tile {
	return api.Tile{Level: level, Refs: refs, Own: own}
}

func TestP7_11Walk(t *testing.T) {
	b := made(t, 400)
	b.checkWalk(0)
	r, _ := b.assign(0, 4096, 64, 1, 0)
	b.checkWalk(r,
		tile(0, 1, true), tile(1, 1, true), tile(2, 1, true), tile(3, 1, true), tile(3, 1, true), tile(2, 1, true), tile(3, 1, true),
		tile(1, 1, true), tile(2, 1, true), tile(3, 1, true))
	// The data blocks are told in the order of the logical ones.
	var data []int
	for _, tile := range b.walk(r) {
		if tile.Level == 3 {
			data = append(data, tile.Block)
		}
	}
	if want := []int{b.find(r, 0), b.find(r, 1), b.find(r, 64), b.find(r, 4096)}; !slices.Equal(data, want) {
		t.Errorf("Walk tells the data blocks %v; want %v", data, want)
	}
	// The root is shared, and so all below it, that has one reference.
	b.share(r)
	b.checkWalk(r,
		tile(0, 2, false), tile(1, 1, false), tile(2, 1, false), tile(3, 1, false), tile(3, 1, false), tile(2, 1, false), tile(3, 1, false),
		tile(1, 1, false), tile(2, 1, false), tile(3, 1, false))
	// A node of level 1 is shared.
	q, _ := b.assign(r, 4096)
	for _, root := range []int{r, q} {
		b.checkWalk(root,
			tile(0, 1, true), tile(1, 2, false), tile(2, 1, false), tile(3, 1, false), tile(3, 1, false), tile(2, 1, false), tile(3, 1, false),
			tile(1, 1, true), tile(2, 1, true), tile(3, 1, true))
	}
	// A node of level 2 is shared.
	q, _ = b.assign(q, 64)
	for _, root := range []int{r, q} {
		b.checkWalk(root,
			tile(0, 1, true), tile(1, 1, true), tile(2, 2, false), tile(3, 1, false), tile(3, 1, false), tile(2, 1, true), tile(3, 1, true),
			tile(1, 1, true), tile(2, 1, true), tile(3, 1, true))
	}
	// A data block is.
	q, _ = b.assign(q, 1)
	for _, root := range []int{r, q} {
		b.checkWalk(root,
			tile(0, 1, true), tile(1, 1, true), tile(2, 1, true), tile(3, 2, false), tile(3, 1, true), tile(2, 1, true), tile(3, 1, true),
			tile(1, 1, true), tile(2, 1, true), tile(3, 1, true))
	}
}

// walkNew tells what a walk tells where some nodes were met.
func (b *bench) walkNew(root int, met ...int) []api.Tile {
	b.t.Helper()
	tiles, e := b.m.WalkNew(b.x, root, func(node int) bool { return slices.Contains(met, node) })
	if e != api.OK {
		b.t.Fatalf("WalkNew(t, %d) = %d", root, e)
	}
	return tiles
}

// What hangs on a node that was met is not told, and the node itself is; a data block is never asked of.
func TestP7_11WalkNew(t *testing.T) {
	b := made(t, 100)
	r, data := b.assign(0, 0, 1, 64, 4096)
	whole := b.walk(r)
	if len(whole) != 10 || whole[9].Block != data {
		t.Fatalf("Walk(t, r) = %v", whole)
	}
	// In the order of a walk: the root, the nodes down to 0, 0 and 1; the node of 64, and 64; the nodes down to 4096, and 4096.
	at := func(places ...int) []api.Tile {
		var out []api.Tile
		for _, i := range places {
			out = append(out, whole[i])
		}
		return out
	}
	for _, c := range []struct {
		met  []int
		told []int
	}{
		{nil, []int{0, 1, 2, 3, 4, 5, 6, 7, 8, 9}},
		{[]int{0}, []int{0}},
		{[]int{1}, []int{0, 1, 7, 8, 9}},
		{[]int{2}, []int{0, 1, 2, 5, 6, 7, 8, 9}},
		{[]int{5, 8}, []int{0, 1, 2, 3, 4, 5, 7, 8}},
		{[]int{1, 2, 5, 7}, []int{0, 1, 7}},
		{[]int{3, 4, 6, 9}, []int{0, 1, 2, 3, 4, 5, 6, 7, 8, 9}},
	} {
		var met []int
		for _, i := range c.met {
			met = append(met, whole[i].Block)
		}
		if got, want := b.walkNew(r, met...), at(c.told...); !slices.Equal(got, want) {
			t.Errorf("WalkNew(t, r), where %v were met, = %v; want %v", c.met, got, want)
		}
	}
	if got := b.walkNew(0); len(got) != 0 {
		t.Errorf("WalkNew(t, 0) = %v; want none", got)
	}
}

// Of two maps that share nearly all, what was met with the one is not gone through again: few blocks are read.
func TestP7_11WalkNewReadsFewBlocks(t *testing.T) {
	b := made(t, 5000)
	root := 0
	for l := 0; l < 4096; l += 3 {
		root, _ = b.assign(root, l)
	}
	b.share(root)
	copied, _ := b.assign(root, 5)
	b.commit()
	b.checkpoint()
	var met []int
	for _, tile := range b.walk(root) {
		met = append(met, tile.Block)
	}
	before := b.reads()
	if got := b.walkNew(copied, met...); len(got) < 66 || len(got) > 120 {
		t.Errorf("WalkNew of a map that shares all but a way tells %d", len(got))
	}
	if n := b.reads() - before; n > 120 {
		t.Errorf("WalkNew of a map that shares all but a way reads %d blocks", n)
	}
}

// A node that was met is none at another level, and one that can be none is told where nothing above it was met.
func TestP7_11WalkNewOverWhatIsNoNode(t *testing.T) {
	b := made(t, 100)
	r, _ := b.assign(0, 0, 4096)
	way := b.path(r, 4096)
	refuse := func(root int, want api.Errno, met ...int) {
		t.Helper()
		tiles, e := b.m.WalkNew(b.x, root, func(node int) bool { return slices.Contains(met, node) })
		if len(tiles) != 0 || e != want {
			t.Errorf("WalkNew(t, %d) = %v, %d; want none, %d", root, tiles, e, want)
		}
	}
	refuse(way[1], api.ErrRadixNode, way[1])
	refuse(way[3], api.ErrRadixNode, way[3])
	refuse(-1, api.ErrRadixNode)
	refuse(101, api.ErrRadixNode)
	b.put(way[2], full(1))
	refuse(r, api.ErrRadixNode)
	refuse(r, api.ErrRadixNode, way[2])
	if got := b.walkNew(r, way[1]); len(got) != 5 {
		t.Errorf("WalkNew past what can be no node = %v", got)
	}
	b.darken()
	refuse(r, api.ErrDiskOff)
	b.m = nil
	refuse(r, api.ErrNil)
}

// A map is walked by its nodes: of a map of few nodes few blocks are read, whatever the range is.
func TestP7_10FewBlocksAreRead(t *testing.T) {
	b := made(t, 2000)
	root := 0
	for l := range 64 {
		root, _ = b.assign(root, l, 4096+l, 200000+l)
	}
	b.share(root)
	b.commit()
	b.checkpoint()
	for _, c := range []struct {
		name string
		most int
		call func()
	}{
		{"Find", 20, func() { b.m.Find(b.x, root, 4100) }},
		{"Need", 30, func() { b.m.Need(b.x, root, 4100) }},
		{"NeedAll", 60, func() { b.m.NeedAll(b.x, root, 0, all) }},
		{"NeedDrop", 40, func() { b.m.NeedDrop(b.x, root, 5, 200005) }},
		{"Pairs", 30, func() { b.m.Pairs(b.x, root, 0, all) }},
		{"Share", 20, func() { b.m.Share(b.x, root) }},
		{"Release", 30, func() { b.m.Release(b.x, root) }},
	} {
		before := b.reads()
		c.call()
		if n := b.reads() - before; n > c.most {
			t.Errorf("%s reads %d blocks of a map of 7 nodes; want %d at most", c.name, n, c.most)
		}
		b.abort()
	}
}

// What lies in a range as a whole is not looked at where it is asked what a drop needs, nor where it is shared and goes.
func TestP7_6WhatGoesWholeIsNotRead(t *testing.T) {
	b := made(t, 2000)
	root := 0
	for i := range 64 {
		root, _ = b.assign(root, i*4096, i*4096+64, i*4096+128)
		b.commit()
	}
	b.share(root)
	b.commit()
	b.checkpoint()
	before := b.reads()
	b.checkNeedDrop(root, 1, 63*4096+1, 3)
	if n := b.reads() - before; n > 40 {
		t.Errorf("NeedDrop reads %d blocks of a map of 257 nodes", n)
	}
	before = b.reads()
	b.drop(root, 0, all)
	if n := b.reads() - before; n > 40 {
		t.Errorf("Drop of all of a shared map reads %d blocks", n)
	}
}

// As many blocks are written as have to be: Drop of nearly all writes the nodes at both ends alone.
func TestP7_7FewNodesAreWritten(t *testing.T) {
	b := made(t, 2000)
	root := 0
	for i := range 12 {
		root, _ = b.assign(root, i*4096, i*4096+1, i*4096+70)
	}
	b.commit()
	before := b.seen()
	b.drop(root, 1, 11*4096+1)
	changed := 0
	for i, block := range b.seen() {
		if i >= b.base-journalBlocks && !slices.Equal(block, before[i]) {
			changed++
		}
	}
	if changed > 5 {
		t.Errorf("Drop of a range has changed %d nodes; want 5 at most", changed)
	}
}

// What is told writes nothing, in the transaction neither.
func TestR5WhatTellsWritesNothing(t *testing.T) {
	b := made(t, 100)
	r, _ := b.assign(0, 5, 70)
	b.share(r)
	b.commit()
	seq := b.seq()
	b.checkFind(r, 5, b.find(r, 5))
	b.checkNeed(r, 6, 4)
	b.checkNeedAll(r, 0, 64, 66)
	b.checkNeedDrop(r, 5, 6, 2)
	b.pairs(r, 0, all)
	b.walk(r)
	b.commit()
	if b.seq() != seq {
		t.Errorf("what tells something has written something")
	}
}

// What is handed out is new: whoever writes into it changes nothing else.
func TestR4WhatIsHandedOutIsNew(t *testing.T) {
	b := made(t, 100)
	r, _ := b.assign(0, 5, 70)
	for range 2 {
		ps, ts := b.pairs(r, 0, all), b.walk(r)
		again, over := b.pairs(r, 0, all), b.walk(r)
		clear(ps[:cap(ps)])
		clear(ts[:cap(ts)])
		if len(again) != 2 || again[0].Logical != 5 || again[1].Logical != 70 || len(over) != 6 || over[0].Block != r {
			t.Errorf("what was handed out is changed by writing into another answer: %v, %v", again, over)
		}
	}
}

// Ranges tell the same logical blocks as the pairs, rising, no two touching.
func TestP7_10RangesOfPairs(t *testing.T) {
	for _, c := range []struct {
		mapped []int
		want   []api.Range
	}{
		{nil, nil},
		{[]int{0}, []api.Range{{From: 0, To: 1}}},
		{[]int{0, 1, 2}, []api.Range{{From: 0, To: 3}}},
		{[]int{0, 2, 4}, []api.Range{{From: 0, To: 1}, {From: 2, To: 3}, {From: 4, To: 5}}},
		{[]int{62, 63, 64, 65, 67}, []api.Range{{From: 62, To: 66}, {From: 67, To: 68}}},
		{[]int{5, 4095, 4096, 262143}, []api.Range{{From: 5, To: 6}, {From: 4095, To: 4097}, {From: 262143, To: 262144}}},
	} {
		b := made(t, 400)
		r, _ := b.assign(0, c.mapped...)
		pairs, e := b.m.Pairs(b.x, r, 0, all)
		if e != api.OK {
			t.Fatalf("Pairs = %d", e)
		}
		before := slices.Clone(pairs)
		if got := radix.Ranges(pairs); !slices.Equal(got, c.want) {
			t.Errorf("Ranges of %v = %v; want %v", c.mapped, got, c.want)
		}
		if !slices.Equal(pairs, before) {
			t.Errorf("Ranges has changed what was handed in")
		}
	}
}
