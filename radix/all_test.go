package radix_test

import (
	"bytes"
	"slices"
	"testing"

	"cistern/api"
)

// ranges are some that lie within nodes, and over the seams of each level.
func ranges() []api.Range {
	return []api.Range{
		{From: 0, To: 0}, {From: all, To: all}, {From: 5, To: 6}, {From: 0, To: 32}, {From: 63, To: 65}, {From: 48, To: 80},
		{From: 4095, To: 4097}, {From: 4080, To: 4112}, {From: 100, To: 300}, {From: all - 1, To: all}, {From: 8190, To: 8200},
	}
}

// AssignAll takes what its need says, and leaves the map that as many calls of Assign leave; what is mapped stays.
func TestP7_5AssignAllIsAsOneAssignForEach(t *testing.T) {
	for _, shared := range []bool{false, true} {
		for _, r := range ranges() {
			b := made(t, 700)
			root, _ := b.assign(0, 3, 5, 64, 70, 4096, 8192)
			if shared {
				b.share(root)
			}
			b.commit()
			old := b.pairs(root, 0, all)
			need, e := b.m.NeedAll(b.x, root, r.From, r.To)
			if e != api.OK {
				t.Fatalf("NeedAll = %d", e)
			}
			free := b.free()
			q, blocks, e := b.m.AssignAll(b.x, root, r.From, r.To)
			if e != api.OK || b.free() != free-need {
				t.Errorf("AssignAll(t, r, %d, %d) = %d; it takes %d, where it needs %d", r.From, r.To, e, free-b.free(), need)
			}
			if !shared && q != root {
				t.Errorf("AssignAll of an exclusive map gives another root")
			}
			b.checkNew(q, r, old, blocks)
			if shared {
				if !slices.Equal(b.pairs(root, 0, all), old) {
					t.Errorf("AssignAll has changed the map that it shares")
				}
				b.release(root)
			}
			b.checkReferences(q)
			b.release(q)
			b.checkReferences()
		}
	}
}

// checkNew holds that in a map all of a range is mapped, what was mapped as it was, the others in the new blocks in turn.
func (b *bench) checkNew(root int, r api.Range, old []api.Pair, blocks []int) {
	b.t.Helper()
	want := slices.Clone(old)
	for l := r.From; l < r.To; l++ {
		if slices.ContainsFunc(old, func(p api.Pair) bool { return p.Logical == l }) {
			continue
		}
		if len(blocks) == 0 {
			b.t.Fatalf("there is no new block for %d", l)
		}
		want = append(want, api.Pair{Logical: l, Block: blocks[0]})
		blocks = blocks[1:]
	}
	slices.SortFunc(want, func(x, y api.Pair) int { return x.Logical - y.Logical })
	if got := b.pairs(root, 0, all); !slices.Equal(got, want) || len(blocks) != 0 {
		b.t.Errorf("behind AssignAll of %v the map is %v; want %v, and %v are left", r, got, want, blocks)
	}
}

// Just as many are free as it needs, and one less: then it is refused, and has written nothing.
func TestR2AssignAllWhereLittleIsFree(t *testing.T) {
	for _, r := range ranges() {
		for _, less := range []int{0, 1} {
			b := made(t, 300)
			root, _ := b.assign(0, 3, 64)
			b.share(root)
			need, _ := b.m.NeedAll(b.x, root, r.From, r.To)
			for free := b.free(); free > max(need-less, 0); free-- {
				b.p.Alloc(b.x)
			}
			b.commit()
			q, blocks, e := b.m.AssignAll(b.x, root, r.From, r.To)
			if less == 0 || need == 0 {
				if e != api.OK || b.free() != 0 {
					t.Errorf("AssignAll of %v, where as many are free as it needs = %d", r, e)
				}
				continue
			}
			if q != 0 || len(blocks) != 0 || e != api.ErrSpaceFull {
				t.Errorf("AssignAll of %v, where one is free too few = %d, %v, %d; want ErrSpaceFull", r, q, blocks, e)
			}
			b.checkUnwritten("a refused AssignAll")
		}
	}
}

// The second of two nodes that are to be copied cannot be: nothing is done of the first one either.
func TestR2AssignAllWhereReferencesAreMost(t *testing.T) {
	for _, refs := range []int{249, 250} {
		b := made(t, 1100)
		r := b.many(refs, 64, 65)
		data := b.path(r, 64)[3]
		b.share(r)
		if n := b.count(data); n != refs {
			t.Fatalf("the data block has %d references; want %d", n, refs)
		}
		before := b.seen()
		q, blocks, e := b.m.AssignAll(b.x, r, 62, 67)
		if refs == 249 {
			if e != api.OK || len(blocks) != 3 || b.count(data) != 250 {
				t.Errorf("AssignAll beside a block with 249 references = %d, %v, %d", q, blocks, e)
			}
			continue
		}
		if q != 0 || len(blocks) != 0 || e != api.ErrSpaceRefs {
			t.Errorf("AssignAll beside a block with 250 references = %d, %v, %d; want ErrSpaceRefs", q, blocks, e)
		}
		if !slices.EqualFunc(b.seen(), before, bytes.Equal) {
			t.Errorf("a refused AssignAll has changed something")
		}
	}
}

// Nothing is written where all is mapped, and where there is nothing to map.
func TestP7_5AssignAllOfWhatIsMapped(t *testing.T) {
	b := made(t, 100)
	root, _ := b.assign(0, 5, 6, 7)
	b.share(root)
	b.commit()
	for _, r := range []api.Range{{From: 5, To: 8}, {From: 6, To: 7}, {From: 9, To: 9}} {
		if q, blocks, e := b.m.AssignAll(b.x, root, r.From, r.To); q != root || len(blocks) != 0 || e != api.OK {
			t.Errorf("AssignAll of %v, which is mapped = %d, %v, %d; want %d", r, q, blocks, e, root)
		}
	}
	if q, blocks, e := b.m.AssignAll(b.x, 0, 9, 9); q != 0 || len(blocks) != 0 || e != api.OK {
		t.Errorf("AssignAll of nothing = %d, %v, %d", q, blocks, e)
	}
	b.checkUnwritten("an AssignAll of what is mapped")
}
