package radix_test

import (
	"bytes"
	"slices"
	"testing"

	"cistern/api"
	"cistern/radix"
)

// askAll calls every call with a root, so that all of them end; those that change something are taken back.
func (b *bench) askAll(root int) {
	b.t.Helper()
	m := b.mark()
	for _, l := range []int{0, 5, 63, 64, 4095, 4096, 262143} {
		b.m.Find(b.x, root, l)
		b.m.Need(b.x, root, l)
		b.m.Assign(b.x, root, l)
		b.back(m)
	}
	for _, c := range []struct{ from, to int }{{0, 0}, {5, 6}, {0, 64}, {63, 65}, {1, 4097}, {0, all}, {1, all - 1}} {
		b.m.NeedAll(b.x, root, c.from, c.to)
		b.m.NeedDrop(b.x, root, c.from, c.to)
		b.m.Pairs(b.x, root, c.from, c.to)
		b.m.Drop(b.x, root, c.from, c.to)
		b.back(m)
		b.m.AssignAll(b.x, root, c.from, min(c.to, c.from+100))
		b.back(m)
	}
	b.m.Walk(b.x, root)
	b.m.Share(b.x, root)
	b.back(m)
	b.m.Release(b.x, root)
	b.back(m)
}

// Roots that can be no node: every call says so, and changes nothing.
func TestP7RootsThatAreNoNode(t *testing.T) {
	b := made(t, 60)
	r, _ := b.assign(0, 5, 70)
	path := b.path(r, 5)
	b.put(path[3], full(7))
	fill := func(data []byte) int {
		block, e := b.p.Alloc(b.x)
		if e != api.OK {
			t.Fatalf("Alloc = %d", e)
		}
		b.put(block, data)
		return block
	}
	copied := fill(b.read(r))
	for name, root := range map[string]int{
		"a data block":               path[3],
		"a node of level 1":          path[1],
		"a node of level 2":          path[2],
		"a block that is free":       60,
		"zeros":                      fill(full(0)),
		"ones":                       fill(full(1)),
		"bytes 70":                   fill(full(70)),
		"bytes 255":                  fill(full(255)),
		"noise":                      fill(noise(512, 9)),
		"a root's bytes elsewhere":   copied,
		"a root's bytes, one spoilt": fill(append(b.read(r)[:511:511], 1)),
	} {
		before := b.seen()
		b.checkRefused(b.m, b.x, root, 5, 0, all, api.ErrRadixNode)
		b.checkRefused(b.m, b.x, root, 262143, 5, 5, api.ErrRadixNode)
		b.checkRefusedAt(b.m, b.x, root, -1, api.ErrRadixBlock)
		b.checkRefusedOver(b.m, b.x, root, 1, 0, api.ErrRadixRange)
		if !slices.EqualFunc(b.seen(), before, bytes.Equal) {
			t.Errorf("calls with %s for a root have changed something", name)
		}
		b.askAll(root)
	}
	b.checkMapped(r, 5, 70)
}

// Each byte of each node of a map is spoilt in its turn: the calls that meet it say so, and those that do not tell as before.
func TestP7NodesThatAreSpoilt(t *testing.T) {
	b := made(t, 60)
	r, _ := b.assign(0, 5, 70, 4096)
	b.share(r)
	b.commit()
	path, far := b.path(r, 5), b.find(r, 4096)
	for level, block := range path[:3] {
		good := b.read(block)
		for i := range good {
			bad := slices.Clone(good)
			bad[i] ^= byte(1 + i%255)
			b.put(block, bad)
			b.checkRefusedAt(b.m, b.x, r, 5, api.ErrRadixNode)
			if ts, e := b.m.Walk(b.x, r); len(ts) != 0 || e != api.ErrRadixNode {
				t.Errorf("Walk, where byte %d of the node of level %d is spoilt = %v, %d", i, level, ts, e)
			}
			if ps, e := b.m.Pairs(b.x, r, 0, all); len(ps) != 0 || e != api.ErrRadixNode {
				t.Errorf("Pairs, where byte %d of the node of level %d is spoilt = %v, %d", i, level, ps, e)
			}
			if level > 0 {
				b.checkFind(r, 4096, far)
			}
			if i%37 == 0 {
				b.askAll(r)
			}
			b.abort()
		}
	}
	b.checkMapped(r, 5, 70, 4096)
}

// A map that was let go, and one whose blocks others have taken since.
func TestP7RootsThatWereLetGo(t *testing.T) {
	b := made(t, 60)
	r, _ := b.assign(0, 0, 1, 64, 4096)
	b.share(r)
	q, _ := b.assign(r, 0)
	b.commit()
	b.release(q)
	b.askAll(q)
	b.commit()
	b.askAll(q)
	b.checkReferences(r)
	told := b.pairs(r, 0, all)
	p, _ := b.assign(0, 7)
	for l := 100; ; l++ {
		n, d, e := b.m.Assign(b.x, p, l)
		if e != api.OK {
			break
		}
		p = n
		b.put(d, noise(512, uint32(l)))
		b.askAll(q)
	}
	b.commit()
	for root := 1; root <= 60; root++ {
		b.askAll(root)
	}
	if !slices.Equal(b.pairs(r, 0, all), told) {
		t.Errorf("calls over a root that was let go have changed another map")
	}
	b.checkReferences(r, p)
}

// Counts that the space's own calls have changed: what is mapped is told as it stands, with the references that are counted then.
func TestP7_11CountsThatWereChanged(t *testing.T) {
	b := made(t, 60)
	r, _ := b.assign(0, 0, 1, 64, 4096)
	b.commit()
	told, tiles := b.pairs(r, 0, all), b.walk(r)
	for i, spoilt := range tiles {
		for _, by := range []int{-1, 1, 2, 249} {
			for n := by; n > 0; n-- {
				b.p.Ref(b.x, spoilt.Block)
			}
			if by < 0 {
				b.p.Unref(b.x, spoilt.Block)
			}
			if !slices.Equal(b.pairs(r, 0, all), told) {
				t.Errorf("Pairs of a map with a changed count = %v; want %v", b.pairs(r, 0, all), told)
			}
			for _, p := range told {
				b.checkFind(r, p.Logical, p.Block)
			}
			b.checkSpoiltWalk(r, tiles, i, 1+by)
			b.askAll(r)
			b.abort()
		}
	}
	// None of them has a reference.
	for _, tile := range tiles {
		b.p.Unref(b.x, tile.Block)
	}
	b.commit()
	for i, tile := range b.walk(r) {
		if want := (api.Tile{Level: tiles[i].Level, Block: tiles[i].Block}); tile != want {
			t.Errorf("Walk of a map without references tells %v; want %v", tile, want)
		}
	}
	b.askAll(r)
}

// checkSpoiltWalk holds a walk against the one ahead of the change of one count.
func (b *bench) checkSpoiltWalk(root int, before []api.Tile, spoilt int, refs int) {
	b.t.Helper()
	want := slices.Clone(before)
	want[spoilt].Refs = refs
	for i := spoilt; i < len(want) && (i == spoilt || want[i].Level > want[spoilt].Level); i++ {
		want[i].Own = refs == 1
	}
	if got := b.walk(root); !slices.Equal(got, want) {
		b.t.Errorf("Walk = %v; want %v", got, want)
	}
}

// Nodes that no call has made: they name themselves, one another, one thing often, or what is no node.
func TestP7NodesThatAreForged(t *testing.T) {
	b := made(t, 60)
	const root, one, two, data = 1, 2, 3, 4
	for range 10 {
		b.p.Alloc(b.x)
	}
	same := func(block int) [64]int {
		var entries [64]int
		for i := range entries {
			entries[i] = block
		}
		return entries
	}
	for _, c := range []struct {
		name                   string
		level0, level1, level2 [64]int
		want                   api.Errno
	}{
		{"a circle", same(root), same(root), same(root), api.ErrRadixNode},
		{"a circle of two", same(one), same(root), same(one), api.ErrRadixNode},
		{"a level too deep", same(two), same(two), same(two), api.ErrRadixNode},
		{"one thing often", same(one), same(two), same(data), api.OK},
		{"a node as data", same(one), same(two), same(root), api.OK},
		{"no entries", same(one), same(two), same(0), api.ErrRadixNode},
		{"a block above the size", same(one), same(two), same(61), api.ErrRadixNode},
		{"what is no node", same(one), same(data), same(data), api.ErrRadixNode},
	} {
		b.put(root, radix.Laid(0, root, c.level0))
		b.put(one, radix.Laid(1, one, c.level1))
		b.put(two, radix.Laid(2, two, c.level2))
		ps, e := b.m.Pairs(b.x, root, 0, all)
		if e != c.want || e == api.OK && len(ps) != all {
			t.Errorf("%s: Pairs gives %d, %d; want %d", c.name, len(ps), e, c.want)
		}
		b.askAll(root)
	}
}
