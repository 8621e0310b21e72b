package radix_test

import (
	"bytes"
	"slices"
	"testing"

	"cistern/api"
)

// leaf is a thing of the model: a node or a data block, as the document tells of it. It knows nothing of pool blocks but
// which one it was first seen in.
type leaf struct {
	level int
	refs  int
	kids  map[int]*leaf
	block int
	tag   int // what was written into a data block
}

// kid tells which entry of a node of that level leads on to l.
func kid(level int, l int) int { return []int{l / 4096, l / 64 % 64, l % 64}[level] }

// mapped goes through the logical blocks of a thing.
func (x *leaf) mapped(first int, told map[int]*leaf) map[int]*leaf {
	if x == nil {
		return told
	}
	if x.level == 3 {
		told[first] = x
	}
	for i, k := range x.kids {
		k.mapped(first+i*[]int{4096, 64, 1}[x.level], told)
	}
	return told
}

// parted tells how many of the mapped blocks lie in a range, and how many do not.
func (x *leaf) parted(first int, from int, to int) (int, int) {
	in, out := 0, 0
	for l := range x.mapped(first, map[int]*leaf{}) {
		if l >= from && l < to {
			in++
		} else {
			out++
		}
	}
	return in, out
}

// need is the need of a write at l.
func (x *leaf) need(level int, own bool, l int) int {
	n := 1
	if x != nil && own && x.refs == 1 {
		n = 0
	}
	if level == 3 {
		return n
	}
	var next *leaf
	if x != nil {
		next = x.kids[kid(level, l)]
	}
	return n + next.need(level+1, n == 0, l)
}

// write is a write at l, word by word: a copy gives a reference to all that it names, and the old one loses one.
func (x *leaf) write(level int, own bool, l int) *leaf {
	if x == nil {
		x = &leaf{level: level, refs: 1, kids: map[int]*leaf{}}
		if level < 3 {
			x.kids[kid(level, l)] = (*leaf)(nil).write(level+1, true, l)
		}
		return x
	}
	own = own && x.refs == 1
	if level == 3 {
		if own {
			return x
		}
		x.refs--
		return &leaf{level: 3, refs: 1}
	}
	if !own {
		x = x.copied()
	}
	x.kids[kid(level, l)] = x.kids[kid(level, l)].write(level+1, own, l)
	return x
}

// copied gives a copy of a node that takes its place.
func (x *leaf) copied() *leaf {
	c := &leaf{level: x.level, refs: 1, kids: map[int]*leaf{}}
	for i, k := range x.kids {
		c.kids[i] = k
		k.refs++
	}
	x.refs--
	return c
}

// lose takes a reference.
func (x *leaf) lose() {
	if x == nil {
		return
	}
	if x.refs--; x.refs == 0 {
		for _, k := range x.kids {
			k.lose()
		}
	}
}

func (x *leaf) needDrop(first int, own bool, from int, to int) int {
	if x == nil || x.level == 3 {
		return 0
	}
	own = own && x.refs == 1
	in, out := x.parted(first, from, to)
	n := 0
	if in > 0 && out > 0 && !own {
		n = 1
	}
	for i, k := range x.kids {
		n += k.needDrop(first+i*[]int{4096, 64, 1}[x.level], own, from, to)
	}
	return n
}

func (x *leaf) drop(first int, own bool, from int, to int) *leaf {
	in, out := x.parted(first, from, to)
	if in == 0 {
		return x
	}
	if out == 0 {
		x.lose()
		return nil
	}
	own = own && x.refs == 1
	if !own {
		x = x.copied()
	}
	for i, k := range x.kids {
		x.kids[i] = k.drop(first+i*[]int{4096, 64, 1}[x.level], own, from, to)
		if x.kids[i] == nil {
			delete(x.kids, i)
		}
	}
	return x
}

// world is a pool with some that have maps, and what they shall be.
type world struct {
	*bench
	roots []int
	has   []*leaf
	tags  int
}

// state is what a world goes back to.
type state struct {
	roots []int
	has   []*leaf
}

func (w *world) state() state {
	seen := map[*leaf]*leaf{}
	var cloned func(x *leaf) *leaf
	cloned = func(x *leaf) *leaf {
		if x == nil {
			return nil
		}
		if c := seen[x]; c != nil {
			return c
		}
		c := &leaf{level: x.level, refs: x.refs, kids: map[int]*leaf{}, block: x.block, tag: x.tag}
		seen[x] = c
		for i, k := range x.kids {
			c.kids[i] = cloned(k)
		}
		return c
	}
	s := state{roots: slices.Clone(w.roots)}
	for _, x := range w.has {
		s.has = append(s.has, cloned(x))
	}
	return s
}

// restore goes back to a state; it may be gone back to once more.
func (w *world) restore(s state) {
	w.roots, w.has = s.roots, s.has
	again := w.state()
	w.roots, w.has = again.roots, again.has
}

// checkTree holds a thing of the model against the tiles that a walk tells, and gives those that are left.
func (w *world) checkTree(x *leaf, own bool, tiles []api.Tile, places map[int]*leaf) []api.Tile {
	w.t.Helper()
	if x == nil {
		return tiles
	}
	own = own && x.refs == 1
	if len(tiles) == 0 {
		w.t.Fatalf("Walk ends ahead of a thing of level %d", x.level)
	}
	got := tiles[0]
	if x.block == 0 {
		x.block = got.Block
	}
	if want := (api.Tile{Level: x.level, Block: x.block, Refs: x.refs, Own: own}); got != want {
		w.t.Errorf("Walk tells %v; want %v", got, want)
	}
	if other := places[got.Block]; other != nil && other != x {
		w.t.Errorf("pool block %d is two things", got.Block)
	}
	places[got.Block] = x
	tiles = tiles[1:]
	for i := range 64 {
		tiles = w.checkTree(x.kids[i], own, tiles, places)
	}
	return tiles
}

// checkAll holds all that is told against the model: walks, pairs, data, and the count of every pool block.
func (w *world) checkAll() {
	w.t.Helper()
	places := map[int]*leaf{}
	for i, root := range w.roots {
		if left := w.checkTree(w.has[i], true, w.walk(root), places); len(left) != 0 {
			w.t.Errorf("Walk tells %v beyond what is there", left)
		}
		mapped := w.has[i].mapped(0, map[int]*leaf{})
		pairs := w.pairs(root, 0, all)
		if len(pairs) != len(mapped) || !slices.IsSortedFunc(pairs, func(a, b api.Pair) int { return a.Logical - b.Logical }) {
			w.t.Errorf("Pairs gives %v; %d blocks are mapped", pairs, len(mapped))
		}
		for _, p := range pairs {
			x := mapped[p.Logical]
			if x == nil || x.block != p.Block {
				w.t.Fatalf("Pairs gives %v; want %v", p, x)
			}
			w.checkFind(root, p.Logical, p.Block)
			if !bytes.Equal(w.read(p.Block), noise(512, uint32(x.tag))) {
				w.t.Errorf("the bytes of data block %d are changed", p.Block)
			}
		}
	}
	for block, n := range w.counts() {
		if x := places[block]; x == nil && n != 0 || x != nil && n != x.refs {
			w.t.Errorf("pool block %d has %d references; want those of %v", block, n, x)
		}
	}
}

// taken tells how many pool blocks have references, and had none.
func taken(before []int, after []int) int {
	n := 0
	for block := range after {
		if before[block] == 0 && after[block] > 0 {
			n++
		}
	}
	return n
}

func (w *world) doAssign(i int, l int) {
	w.t.Helper()
	root, need := w.roots[i], w.has[i].need(0, true, l)
	w.checkNeed(root, l, need)
	free, _ := w.p.Free(w.x)
	before := w.counts()
	r, d, e := w.m.Assign(w.x, root, l)
	if need > free {
		if r != 0 || d != 0 || e != api.ErrSpaceFull || !slices.Equal(w.counts(), before) {
			w.t.Errorf("Assign(t, %d, %d) with %d free = %d, %d, %d; want ErrSpaceFull", root, l, free, r, d, e)
		}
		return
	}
	if e != api.OK {
		w.t.Fatalf("Assign(t, %d, %d) with %d free = %d, %d, %d", root, l, free, r, d, e)
	}
	if n := taken(before, w.counts()); n != need {
		w.t.Errorf("Assign(t, %d, %d) takes %d blocks; its need is %d", root, l, n, need)
	}
	w.roots[i], w.has[i] = r, w.has[i].write(0, true, l)
	w.checkFind(r, l, d)
	w.tags++
	w.put(d, noise(512, uint32(w.tags)))
	w.has[i].mapped(0, map[int]*leaf{})[l].tag = w.tags
}

func (w *world) doDrop(i int, from int, to int) {
	w.t.Helper()
	root, need := w.roots[i], w.has[i].needDrop(0, true, from, to)
	w.checkNeedDrop(root, from, to, need)
	free, _ := w.p.Free(w.x)
	before := w.counts()
	r, e := w.m.Drop(w.x, root, from, to)
	if need > free {
		if r != 0 || e != api.ErrSpaceFull || !slices.Equal(w.counts(), before) {
			w.t.Errorf("Drop(t, %d, %d, %d) with %d free = %d, %d; want ErrSpaceFull", root, from, to, free, r, e)
		}
		return
	}
	if e != api.OK {
		w.t.Fatalf("Drop(t, %d, %d, %d) with %d free = %d, %d", root, from, to, free, r, e)
	}
	if n := taken(before, w.counts()); n != need {
		w.t.Errorf("Drop(t, %d, %d, %d) takes %d blocks; its need is %d", root, from, to, n, need)
	}
	w.roots[i], w.has[i] = r, w.has[i].drop(0, true, from, to)
}

// doNeedAll holds the need of a range against the writes of the model, one behind the other.
func (w *world) doNeedAll(i int, from int, to int) {
	w.t.Helper()
	s := w.state()
	need := 0
	for l := from; l < to; l++ {
		if w.has[i].mapped(0, map[int]*leaf{})[l] == nil {
			need += w.has[i].need(0, true, l)
			w.has[i] = w.has[i].write(0, true, l)
		}
	}
	w.restore(s)
	w.checkNeedAll(w.roots[i], from, to, need)
}

// doAssignAll holds it against the writes of the model, one behind the other.
func (w *world) doAssignAll(i int, from int, to int) {
	w.t.Helper()
	s, root, need := w.state(), w.roots[i], 0
	var fresh []int
	for l := from; l < to; l++ {
		if w.has[i].mapped(0, map[int]*leaf{})[l] == nil {
			need += w.has[i].need(0, true, l)
			w.has[i] = w.has[i].write(0, true, l)
			fresh = append(fresh, l)
		}
	}
	free, _ := w.p.Free(w.x)
	before := w.counts()
	r, blocks, e := w.m.AssignAll(w.x, root, from, to)
	if need > free {
		if r != 0 || len(blocks) != 0 || e != api.ErrSpaceFull || !slices.Equal(w.counts(), before) {
			w.t.Errorf("AssignAll(t, %d, %d, %d) with %d free = %d, %v, %d; want ErrSpaceFull", root, from, to, free, r, blocks, e)
		}
		w.restore(s)
		return
	}
	if e != api.OK || len(blocks) != len(fresh) {
		w.t.Fatalf("AssignAll(t, %d, %d, %d) with %d free = %d, %v, %d; want %d blocks", root, from, to, free, r, blocks, e, len(fresh))
	}
	if n := taken(before, w.counts()); n != need {
		w.t.Errorf("AssignAll(t, %d, %d, %d) takes %d blocks; its need is %d", root, from, to, n, need)
	}
	w.roots[i] = r
	for n, l := range fresh {
		w.checkFind(r, l, blocks[n])
		w.tags++
		w.put(blocks[n], noise(512, uint32(w.tags)))
		w.has[i].mapped(0, map[int]*leaf{})[l].tag = w.tags
	}
}

// doShare lets another have the map that one has; what that one had is released.
func (w *world) doShare(i int, k int) {
	w.t.Helper()
	root, x := w.roots[i], w.has[i]
	w.share(root)
	if x != nil {
		x.refs++
	}
	w.doRelease(k)
	w.roots[k], w.has[k] = root, x
}

func (w *world) doRelease(i int) {
	w.t.Helper()
	w.release(w.roots[i])
	w.has[i].lose()
	w.roots[i], w.has[i] = 0, nil
}

// place gives one of the logical blocks that are near the seams of nodes.
func place(a byte, b byte) int {
	return []int{0, 64, 4096, 4160, 8128, 131072, 262080}[int(a)%7] + []int{0, 1, 2, 31, 62, 63}[int(b)%6]
}

func (w *world) step(r []byte) {
	w.t.Helper()
	i, l, k := int(r[1])%len(w.roots), place(r[2], r[3]), int(r[4])%len(w.roots)
	switch op := r[0] % 16; {
	case op < 7:
		w.doAssign(i, l)
	case op < 10:
		to := place(r[4], r[5]) + 1
		w.doDrop(i, min(l, to), max(l, to))
	case op < 11:
		w.doDrop(i, 0, all)
	case op < 14:
		w.doShare(i, k)
	case op < 15:
		w.doRelease(i)
	default:
		to := min(l+int(r[5])%80, all)
		w.doNeedAll(i, l, to)
		if r[4]%2 == 0 {
			to = min(l+int(r[5])%12, all)
		}
		w.doAssignAll(i, l, to)
	}
}

// Several that have maps, written, dropped, shared and released in turns, in transactions that are committed or given
// up, with marks that are gone back to, and journals that are opened anew.
func TestP7_12MapsInTurns(t *testing.T) {
	for seed, size := range []int{12, 20, 30, 45, 60, 100, 200, 400} {
		w := &world{bench: made(t, size), roots: make([]int, 4), has: make([]*leaf, 4)}
		script := noise(8*350, uint32(seed+1))
		committed, marked := w.state(), w.state()
		mark := w.mark()
		for n := 0; n < len(script) && !t.Failed(); n += 8 {
			r := script[n:]
			w.step(r)
			switch r[6] % 13 {
			case 0, 1:
				w.commit()
				committed = w.state()
				if r[7]%3 == 0 {
					w.bench = w.again()
				}
				mark, marked = w.mark(), w.state()
			case 2:
				w.abort()
				w.restore(committed)
				mark, marked = w.mark(), w.state()
			case 3:
				w.back(mark)
				w.restore(marked)
			case 4:
				mark, marked = w.mark(), w.state()
			}
			w.checkAll()
		}
		w.endAll()
		if t.Failed() {
			t.Fatalf("the pool was of %d blocks", size)
		}
	}
}

// endAll releases every root that somebody has: then no pool block has a reference.
func (w *world) endAll() {
	w.t.Helper()
	for i := range w.roots {
		w.doRelease(i)
		w.checkAll()
	}
	for block, n := range w.counts() {
		if n != 0 {
			w.t.Errorf("behind Release of every root pool block %d has %d references", block, n)
		}
	}
	w.commit()
	w.checkFree(w.size)
}

// A map of many blocks, whose nodes are full.
func TestP7_12ALargeMap(t *testing.T) {
	b := made(t, 4000)
	const first, count = 4000, 2000
	root := 0
	var want []int
	for l := first; l < first+count; l++ {
		root, _ = b.assign(root, l)
		want = append(want, l)
		if l%500 == 499 {
			b.commit()
		}
	}
	b.commit()
	b.checkMapped(root, want...)
	b.checkNodes(root, want)
	b.share(root)
	q := b.drop(root, first+10, first+count-10)
	b.checkMapped(q, append(want[:10:10], want[count-10:]...)...)
	b.checkMapped(root, want...)
	b.checkReferences(root, q)
	p, _ := b.assign(q, first+count/2)
	b.release(root)
	b.checkReferences(p)
	b.release(p)
	b.commit()
	b.checkFree(4000)
}
