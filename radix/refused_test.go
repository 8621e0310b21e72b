package radix_test

import (
	"bytes"
	"math"
	"slices"
	"testing"

	"cistern/api"
	"cistern/radix"
	"cistern/space"
	"cistern/txn"
)

func TestR3ANilMap(t *testing.T) {
	b := made(t, 10)
	r, _ := b.assign(0, 5)
	var none *radix.Map
	over := b.x
	for _, x := range []*txn.Txn{nil, b.x} {
		b.checkRefused(none, x, r, 5, 0, all, api.ErrNil)
		b.checkRefused(none, x, -1, -1, -1, -1, api.ErrNil)
		b.checkRefused(none, x, 0, 5, 0, all, api.ErrNil)
	}
	b.abort()
	b.checkRefused(none, over, r, 5, 0, all, api.ErrNil)
	b.darken()
	b.checkRefused(none, b.x, r, 5, 0, all, api.ErrNil)
}

// What is wrong with the transaction is said ahead of what is wrong with the root, and with all else.
func TestP7WhichTransactionsAreTaken(t *testing.T) {
	b, other := made(t, 20), made(t, 20)
	r, _ := b.assign(0, 5)
	checkAll := func(x *txn.Txn, want api.Errno) {
		t.Helper()
		for _, root := range []int{-1, 0, r, 20, 21} {
			b.checkRefused(b.m, x, root, 5, 0, all, want)
			b.checkRefused(b.m, x, root, -1, 0, -1, want)
		}
	}
	committed := b.x
	b.commit()
	aborted := b.x
	b.abort()
	checkAll(nil, api.ErrNil)
	checkAll(other.x, api.ErrTxnForeign)
	checkAll(committed, api.ErrTxnOver)
	checkAll(aborted, api.ErrTxnOver)
	if e := other.x.Abort(); e != api.OK {
		t.Fatalf("Abort() = %d", e)
	}
	checkAll(other.x, api.ErrTxnForeign)
	b.checkMapped(r, 5)
	b.darken()
	for _, x := range []*txn.Txn{b.x, committed, aborted, other.x} {
		checkAll(x, api.ErrDiskOff)
	}
	checkAll(nil, api.ErrNil)
}

// Where there is no table, the space's own answer goes up.
func TestR2WhatTheSpaceAnswersGoesUp(t *testing.T) {
	b := made(t, 20)
	p, e := space.Open(b.s, journalBlocks, 19)
	if e != api.OK {
		t.Fatalf("space.Open = %d", e)
	}
	m, _ := radix.New(p, b.base)
	b.checkRefused(m, b.x, -1, -1, -1, -1, api.ErrSpaceForm)
	b.checkRefused(m, b.x, 0, 5, 0, all, api.ErrSpaceForm)
}

func TestP7WhichRootsThereMayBe(t *testing.T) {
	b := made(t, 20)
	r, _ := b.assign(0, 5)
	for _, root := range []int{math.MinInt, -1, 21, 262144, 262145, math.MaxInt} {
		before := b.seen()
		b.checkRefused(b.m, b.x, root, 5, 0, all, api.ErrRadixNode)
		b.checkRefused(b.m, b.x, root, -1, 0, all+1, api.ErrRadixNode)
		b.checkRefused(b.m, b.x, root, all, 3, 2, api.ErrRadixNode)
		if !slices.EqualFunc(b.seen(), before, bytes.Equal) {
			t.Errorf("calls with the root %d have changed something", root)
		}
	}
	// The size is one that may be: what lies there is no node. Behind Grow the next one is.
	b.checkRefused(b.m, b.x, 20, 5, 0, all, api.ErrRadixNode)
	b.checkRefusedAt(b.m, b.x, 20, -1, api.ErrRadixBlock)
	b.checkRefusedOver(b.m, b.x, 20, 1, 0, api.ErrRadixRange)
	b.checkMapped(r, 5)
}

// The greatest pool block can be a root, and a data block.
func TestP7TheLastPoolBlocks(t *testing.T) {
	b := made(t, 700)
	b.commit()
	for range 696 {
		if _, e := b.p.Alloc(b.x); e != api.OK {
			t.Fatalf("Alloc = %d", e)
		}
	}
	r, _ := b.assign(0, 262143)
	var blocks []int
	for _, tile := range b.walk(r) {
		blocks = append(blocks, tile.Block)
	}
	slices.Sort(blocks)
	if !slices.Equal(blocks, []int{697, 698, 699, 700}) {
		t.Errorf("the map lies in %v; want 697 to 700", blocks)
	}
	b.checkMapped(r, 262143)
	if e := b.p.Grow(b.x, 700); e != api.ErrSpaceCount {
		t.Errorf("Grow(t, 700) = %d", e)
	}
}

// What the space grows by can be a root at once.
func TestP7BehindGrow(t *testing.T) {
	b := made(t, 20)
	if e := space.Format(b.x, journalBlocks, 20, 4); e != api.OK {
		t.Fatalf("Format = %d", e)
	}
	b.commit()
	r, _ := b.assign(0, 5)
	b.checkRefused(b.m, b.x, 5, 5, 0, all, api.ErrRadixNode)
	b.checkNeed(r, 6, 1)
	b.checkRefusedFull(r, 6)
	if e := b.p.Grow(b.x, 9); e != api.OK {
		t.Fatalf("Grow = %d", e)
	}
	q, _ := b.assign(0, 7)
	if q != 5 {
		t.Errorf("the new root is %d; want 5", q)
	}
	b.checkMapped(q, 7)
	b.assign(q, 8)
	b.checkRefusedFull(q, 9)
}

// checkRefusedFull holds that no block is free for a write.
func (b *bench) checkRefusedFull(root int, l int) {
	b.t.Helper()
	before := b.seen()
	if r, n, e := b.m.Assign(b.x, root, l); r != 0 || n != 0 || e != api.ErrSpaceFull {
		b.t.Errorf("Assign(t, %d, %d) = %d, %d, %d; want ErrSpaceFull", root, l, r, n, e)
	}
	if !slices.EqualFunc(b.seen(), before, bytes.Equal) {
		b.t.Errorf("a refused Assign has changed something")
	}
}

func TestP7WhichLogicalBlocksThereAre(t *testing.T) {
	b := made(t, 40)
	r, _ := b.assign(0, 5)
	before := b.seen()
	for _, l := range []int{math.MinInt, -4096, -1, 262144, 262145, math.MaxInt} {
		for _, root := range []int{0, r, 20} {
			b.checkRefusedAt(b.m, b.x, root, l, api.ErrRadixBlock)
		}
	}
	if !slices.EqualFunc(b.seen(), before, bytes.Equal) {
		t.Errorf("calls with logical blocks that may not be have changed something")
	}
	for _, l := range []int{0, 63, 64, 4095, 4096, 262143} {
		r, _ = b.assign(r, l)
	}
	b.checkMapped(r, 0, 5, 63, 64, 4095, 4096, 262143)
}

func TestP7WhichRangesThereAre(t *testing.T) {
	b := made(t, 40)
	r, _ := b.assign(0, 5)
	before := b.seen()
	for _, c := range []struct{ from, to int }{
		{-1, 0}, {-1, -1}, {-1, all}, {math.MinInt, math.MaxInt}, {0, all + 1}, {all, all + 1}, {all + 1, all + 1}, {4, 3}, {1, 0},
		{all, all - 1}, {all + 1, all}, {all, 0}, {0, math.MaxInt}, {math.MaxInt, math.MinInt},
	} {
		for _, root := range []int{0, r, 20} {
			b.checkRefusedOver(b.m, b.x, root, c.from, c.to, api.ErrRadixRange)
		}
	}
	if !slices.EqualFunc(b.seen(), before, bytes.Equal) {
		t.Errorf("calls with ranges that may not be have changed something")
	}
	for _, c := range []struct{ from, to int }{{0, 0}, {all, all}, {5, 5}, {6, all}, {0, 5}} {
		if q := b.drop(r, c.from, c.to); q != r {
			t.Errorf("Drop(t, r, %d, %d) = %d; want %d", c.from, c.to, q, r)
		}
		if q := b.drop(0, c.from, c.to); q != 0 {
			t.Errorf("Drop(t, 0, %d, %d) = %d; want 0", c.from, c.to, q)
		}
		b.checkNeedDrop(0, c.from, c.to, 0)
	}
	b.checkMapped(r, 5)
}
