package radix_test

import (
	"bytes"
	"slices"
	"testing"

	"cistern/api"
)

// dropping is a drop of a range of a map of some blocks, what it needs where the map is shared, and what stays.
type dropping struct {
	mapped   []int
	from, to int
	need     int
	stay     []int
}

func droppings() []dropping {
	return []dropping{
		{nil, 0, all, 0, nil},
		{nil, 5, 6, 0, nil},
		{[]int{5}, 0, all, 0, nil},
		{[]int{5}, 5, 6, 0, nil},
		{[]int{5}, 5, 5, 0, []int{5}},
		{[]int{5}, 0, 0, 0, []int{5}},
		{[]int{5}, all, all, 0, []int{5}},
		{[]int{5}, 0, 5, 0, []int{5}},
		{[]int{5}, 6, all, 0, []int{5}},
		{[]int{5, 6}, 5, 6, 3, []int{6}},
		{[]int{5, 6}, 6, 7, 3, []int{5}},
		{[]int{5, 6}, 0, 64, 0, nil},
		{[]int{5, 70}, 5, 6, 2, []int{70}},
		{[]int{5, 70}, 64, 128, 2, []int{5}},
		{[]int{5, 70}, 0, 71, 0, nil},
		{[]int{5, 70}, 6, 70, 0, []int{5, 70}},
		{[]int{5, 4096}, 0, 4096, 1, []int{4096}},
		{[]int{5, 4096}, 5, 6, 1, []int{4096}},
		{[]int{5, 4096}, 4096, all, 1, []int{5}},
		{[]int{5, 4096}, 6, 4096, 0, []int{5, 4096}},
		{[]int{0, 63, 64, 4095, 4096, 262143}, 63, 64, 3, []int{0, 64, 4095, 4096, 262143}},
		{[]int{0, 63, 64, 4095, 4096, 262143}, 64, 65, 2, []int{0, 63, 4095, 4096, 262143}},
		{[]int{0, 63, 64, 4095, 4096, 262143}, 63, 65, 3, []int{0, 4095, 4096, 262143}},
		{[]int{0, 63, 64, 4095, 4096, 262143}, 4095, 4097, 2, []int{0, 63, 64, 262143}},
		{[]int{0, 63, 64, 4095, 4096, 262143}, 1, all - 1, 3, []int{0, 262143}},
		{[]int{0, 63, 64, 4095, 4096, 262143}, 0, all - 1, 1, []int{262143}},
		{[]int{0, 63, 64, 4095, 4096, 262143}, 1, all, 3, []int{0}},
		{[]int{0, 63, 64, 4095, 4096, 262143}, 1, 63, 0, []int{0, 63, 64, 4095, 4096, 262143}},
		{[]int{0, 1, 130, 131, 8192, 8193, 8320, 8321, 262142, 262143}, 1, 262143, 5, []int{0, 262143}},
		{[]int{0, 1, 130, 131, 8192, 8193, 8320, 8321, 262142, 262143}, 131, 8193, 5, []int{0, 1, 130, 8193, 8320, 8321, 262142, 262143}},
		{[]int{0, 1, 130, 131, 8192, 8193, 8320, 8321, 262142, 262143}, 8192, 8321, 3, []int{0, 1, 130, 131, 8321, 262142, 262143}},
		{[]int{0, 1, 130, 131, 8192, 8193, 8320, 8321, 262142, 262143}, 2, 8192, 2, []int{0, 1, 8192, 8193, 8320, 8321, 262142, 262143}},
	}
}

// checkNodes holds that a map has just the nodes that its mapped blocks need.
func (b *bench) checkNodes(root int, mapped []int) {
	b.t.Helper()
	nodes := map[[2]int]bool{}
	for _, l := range mapped {
		nodes[[2]int{0, 0}], nodes[[2]int{1, l / 4096}], nodes[[2]int{2, l / 64}] = true, true, true
	}
	if ts := b.walk(root); len(ts) != len(nodes)+len(mapped) {
		b.t.Errorf("a map of %v has %d nodes and data blocks; want %d", mapped, len(ts), len(nodes)+len(mapped))
	}
}

func TestP7_7DropOfAnExclusiveMap(t *testing.T) {
	for _, c := range droppings() {
		b := made(t, 100)
		r, _ := b.assign(0, c.mapped...)
		b.commit()
		b.checkNeedDrop(r, c.from, c.to, 0)
		before := b.counts()
		q := b.drop(r, c.from, c.to)
		if want := r; len(c.stay) > 0 && q != want || len(c.stay) == 0 && q != 0 {
			t.Errorf("Drop(t, %d, %d, %d) of %v = %d", r, c.from, c.to, c.mapped, q)
		}
		b.checkMapped(q, c.stay...)
		b.checkNodes(q, c.stay)
		reached := make([]int, b.size+1)
		for _, tile := range b.walk(q) {
			if !tile.Own {
				t.Errorf("behind Drop of %v the tile %v is not its own", c, tile)
			}
			reached[tile.Block] = 1
		}
		if !slices.Equal(b.counts(), reached) {
			t.Errorf("behind Drop of %v there are counts of what is not reached", c)
		}
		for block, n := range before {
			if n == 0 && reached[block] > 0 {
				t.Errorf("Drop of %v takes block %d of an exclusive map", c, block)
			}
		}
		// What is let go is free behind the commit.
		free, _ := b.p.Free(b.x)
		b.commit()
		b.checkFree(free + len(b.gone(before)))
	}
}

// gone gives the pool blocks that had references, and have none.
func (b *bench) gone(before []int) []int {
	b.t.Helper()
	var gone []int
	for block, n := range b.counts() {
		if n == 0 && before[block] > 0 {
			gone = append(gone, block)
		}
	}
	return gone
}

func TestP7_7DropOfASharedMap(t *testing.T) {
	for _, c := range droppings() {
		b := made(t, 100)
		r, _ := b.assign(0, c.mapped...)
		b.share(r)
		b.commit()
		free, _ := b.p.Free(b.x)
		old := b.pairs(r, 0, all)
		b.checkNeedDrop(r, c.from, c.to, c.need)
		q := b.drop(r, c.from, c.to)
		b.checkFree(free - c.need)
		if same := slices.Equal(c.stay, c.mapped); same != (q == r) || len(c.stay) == 0 && q != 0 {
			t.Errorf("Drop(t, %d, %d, %d) of %v = %d", r, c.from, c.to, c.mapped, q)
		}
		b.checkMapped(q, c.stay...)
		b.checkNodes(q, c.stay)
		b.checkMapped(r, c.mapped...)
		if !slices.Equal(b.pairs(r, 0, all), old) {
			t.Errorf("Drop of %v has changed the other map", c)
		}
		for _, p := range b.pairs(q, 0, all) {
			if p.Block != b.find(r, p.Logical) {
				t.Errorf("Drop of %v gives %d another data block", c, p.Logical)
			}
		}
		b.checkReferences(r, q)
		b.release(r)
		b.checkReferences(q)
		b.release(q)
		b.checkReferences()
	}
}

// checkReferences holds all counts against the references that the maps of these roots have. Each root stands there
// as often as it is one to somebody.
func (b *bench) checkReferences(roots ...int) {
	b.t.Helper()
	want := make([]int, b.size+1)
	named := map[[2]int]bool{}
	for _, root := range roots {
		if root != 0 {
			want[root]++
		}
		var above [4]int
		for _, tile := range b.walk(root) {
			above[tile.Level] = tile.Block
			if tile.Level == 0 {
				continue
			}
			if by := [2]int{above[tile.Level-1], tile.Block}; !named[by] {
				named[by] = true
				want[tile.Block]++
			}
		}
	}
	if got := b.counts(); !slices.Equal(got, want) {
		b.t.Errorf("the counts are %v; there are the references %v", got, want)
	}
}

// Some of the nodes are shared, others not: of these alone there are copies.
func TestP7_7DropOfAMapThatIsSharedInPart(t *testing.T) {
	mapped := []int{0, 1, 64, 65, 4096, 4097, 4160}
	for _, c := range []struct{ from, to, need int }{
		{0, 1, 0}, {1, 2, 0}, {64, 65, 1}, {64, 66, 0}, {4096, 4097, 2}, {4096, 4098, 1}, {4096, 8192, 0}, {1, 65, 1}, {65, 4097, 3}, {0, all, 0},
		{1, 4096, 0}, {0, 4097, 2}, {1, 4161, 0}, {1, 4160, 1},
	} {
		b := made(t, 100)
		r, _ := b.assign(0, mapped...)
		b.share(r)
		q, _ := b.assign(r, 0)
		b.commit()
		free, _ := b.p.Free(b.x)
		b.checkNeedDrop(q, c.from, c.to, c.need)
		p := b.drop(q, c.from, c.to)
		if p != q && p != 0 {
			t.Errorf("Drop(t, %d, %d, %d) gives another root, %d", q, c.from, c.to, p)
		}
		b.checkFree(free - c.need)
		var stay []int
		for _, l := range mapped {
			if l < c.from || l >= c.to {
				stay = append(stay, l)
			}
		}
		b.checkMapped(p, stay...)
		b.checkMapped(r, mapped...)
		b.checkReferences(r, p)
	}
}

// A node that is exclusive and of which all goes takes with it what hangs on it alone, and leaves what is shared.
func TestP7_7WhatIsLetGo(t *testing.T) {
	b := made(t, 100)
	r, _ := b.assign(0, 0, 1, 64, 4096)
	b.share(r)
	q, _ := b.assign(r, 0)
	b.commit()
	path, before := b.path(q, 0), b.counts()
	if p := b.drop(q, 0, all); p != 0 {
		t.Errorf("Drop(t, %d, 0, 262144) = %d", q, p)
	}
	gone := b.gone(before)
	slices.Sort(path[:])
	if !slices.Equal(gone, path[:]) {
		t.Errorf("behind a Drop of all %v are let go; want %v", gone, path)
	}
	b.checkReferences(r)
}

// Just as many are free as it needs, and one less.
func TestP7_7DropWhereLittleIsFree(t *testing.T) {
	for _, c := range droppings() {
		for _, less := range []int{0, 1} {
			b := made(t, 50)
			r, _ := b.assign(0, c.mapped...)
			b.share(r)
			for free, _ := b.p.Free(b.x); free > max(c.need-less, 0); free-- {
				b.p.Alloc(b.x)
			}
			b.commit()
			before, seq := b.seen(), b.seq()
			q, e := b.m.Drop(b.x, r, c.from, c.to)
			if less == 0 || c.need == 0 {
				if e != api.OK {
					t.Errorf("%v: Drop where as many are free as it needs = %d, %d", c, q, e)
				}
				continue
			}
			if q != 0 || e != api.ErrSpaceFull {
				t.Errorf("%v: Drop where one is free too few = %d, %d; want ErrSpaceFull", c, q, e)
			}
			if !slices.EqualFunc(b.seen(), before, bytes.Equal) {
				t.Errorf("%v: a refused Drop has changed something", c)
			}
			b.commit()
			if b.seq() != seq {
				t.Errorf("%v: a refused Drop has written something", c)
			}
		}
	}
}

// In a node that is to be copied an entry that stays names a block with 250 references: of level 1, 2 and 3. With 249 it
// is done, and where what that entry leads to goes, or goes in part.
func TestP7_7DropWhereReferencesAreMost(t *testing.T) {
	for level, write := range []int{4096, 64, 2} {
		for _, refs := range []int{249, 250} {
			b := made(t, 1200)
			// 1 lies in each node in which 0 lies, so that these can go in part.
			r, _ := b.assign(0, 0, 1, write)
			for range refs - 1 {
				b.share(r)
				b.assign(r, write)
				b.commit()
			}
			path := b.path(r, 0)
			if n := b.count(path[level+1]); n != refs {
				t.Fatalf("the block of level %d has %d references; want %d", level+1, n, refs)
			}
			b.share(r)
			b.commit()
			before := b.seen()
			q, e := b.m.Drop(b.x, r, write, write+1)
			if refs == 249 {
				if e != api.OK || b.count(path[level+1]) != 250 {
					t.Errorf("level %d: Drop beside a block with 249 references = %d, %d", level+1, q, e)
				}
				continue
			}
			if q != 0 || e != api.ErrSpaceRefs {
				t.Errorf("level %d: Drop beside a block with 250 references = %d, %d; want ErrSpaceRefs", level+1, q, e)
			}
			if !slices.EqualFunc(b.seen(), before, bytes.Equal) {
				t.Errorf("level %d: a refused Drop has changed something", level+1)
			}
			b.dropsOfTheMost(r, level, path)
		}
	}
}

// dropsOfTheMost drops what the block with 250 references leads to, whole and in part.
func (b *bench) dropsOfTheMost(r int, level int, path [4]int) {
	b.t.Helper()
	if level == 2 {
		// The data block at 1 has as many references as that at 0: beside it nothing can be copied.
		if q, e := b.m.Drop(b.x, r, 0, 1); q != 0 || e != api.ErrSpaceRefs {
			b.t.Errorf("Drop beside a data block with 250 references = %d, %d; want ErrSpaceRefs", q, e)
		}
	} else {
		q := b.drop(r, 0, 1)
		if b.find(q, 0) != 0 || b.find(r, 0) != path[3] || b.count(path[level+1]) != 250 {
			b.t.Errorf("level %d: Drop of a part of what has 250 references: it has %d", level+1, b.count(path[level+1]))
		}
		b.abort()
	}
	q := b.drop(r, 0, 2)
	if b.find(q, 0) != 0 || b.find(q, 1) != 0 || b.find(r, 0) != path[3] || b.count(path[level+1]) != 250 {
		b.t.Errorf("level %d: Drop of what has 250 references: it has %d", level+1, b.count(path[level+1]))
	}
	b.abort()
	if q := b.drop(r, 0, all); q != 0 || b.count(r) != 1 {
		b.t.Errorf("level %d: Drop of all = %d; the root has %d references", level+1, q, b.count(r))
	}
	b.abort()
}

// In the place of an exclusive node its entries go, whatever references the others have.
func TestP7_7DropInItsPlaceWhereReferencesAreMost(t *testing.T) {
	b := made(t, 1200)
	r := b.many(250, 0, 4096)
	b.checkNeedDrop(r, 4096, 4097, 0)
	if q := b.drop(r, 4096, 4097); q != r {
		t.Errorf("Drop(t, %d, 4096, 4097) = %d", r, q)
	}
	b.checkMapped(r, 0)
	if n := b.count(b.path(r, 0)[1]); n != 250 {
		t.Errorf("what stays has %d references; want 250", n)
	}
}

func TestP7_8Share(t *testing.T) {
	b := made(t, 100)
	if e := b.m.Share(b.x, 0); e != api.OK {
		t.Errorf("Share(t, 0) = %d", e)
	}
	b.commit()
	if b.seq() != 1 {
		t.Errorf("Share of root 0 has written something")
	}
	r, _ := b.assign(0, 5)
	before := b.counts()
	for n := 2; n <= 250; n++ {
		b.share(r)
		if got := b.count(r); got != n {
			t.Fatalf("behind Share the root has %d references; want %d", got, n)
		}
	}
	seen := b.seen()
	for range 2 {
		if e := b.m.Share(b.x, r); e != api.ErrSpaceRefs {
			t.Errorf("Share of a root with 250 references = %d; want ErrSpaceRefs", e)
		}
	}
	if !slices.EqualFunc(b.seen(), seen, bytes.Equal) {
		t.Errorf("a refused Share has changed something")
	}
	before[r] = 250
	if !slices.Equal(b.counts(), before) {
		t.Errorf("Share has changed other counts than the root's")
	}
	b.release(r)
	if e := b.m.Share(b.x, r); e != api.OK || b.count(r) != 250 {
		t.Errorf("Share of a root with 249 references = %d", e)
	}
	// A map whose root has 250 references can be written: its root loses one.
	if q, _ := b.assign(r, 6); q == r || b.count(r) != 249 {
		t.Errorf("Assign over a root with 250 references = %d; it has %d", q, b.count(r))
	}
}

func TestP7_9Release(t *testing.T) {
	b := made(t, 200)
	if e := b.m.Release(b.x, 0); e != api.OK {
		t.Errorf("Release(t, 0) = %d", e)
	}
	b.commit()
	if b.seq() != 1 {
		t.Errorf("Release of root 0 has written something")
	}
	r, _ := b.assign(0, 0, 1, 64, 4096, 262143)
	b.share(r)
	b.share(r)
	q, _ := b.assign(r, 64)
	p, _ := b.assign(r, 4096)
	b.commit()
	b.checkReferences(r, q, p)
	told := b.pairs(p, 0, all)
	for _, roots := range [][]int{{q, p}, {p}, {}} {
		for _, root := range []int{r, q, p} {
			if !slices.Contains(roots, root) && b.count(root) > 0 {
				b.release(root)
			}
		}
		b.checkReferences(roots...)
		if slices.Contains(roots, p) && !slices.Equal(b.pairs(p, 0, all), told) {
			t.Errorf("Release of another root has changed a map")
		}
	}
	b.commit()
	b.checkFree(200)
}

// What was taken in the transaction is free at once, what was there when it began is free behind it.
func TestP7_9WhenWhatIsReleasedIsFree(t *testing.T) {
	b := made(t, 20)
	r, _ := b.assign(0, 5, 6)
	b.checkFree(15)
	b.release(r)
	b.checkFree(20)
	r, _ = b.assign(0, 5, 6)
	b.commit()
	b.release(r)
	b.checkFree(15)
	b.commit()
	b.checkFree(20)
}
