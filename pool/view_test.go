package pool_test

import (
	"bytes"
	"math"
	"slices"
	"strings"
	"testing"

	"cistern/api"
)

func (b *bench) checkView(want api.View) {
	b.t.Helper()
	if got := b.view(); shown(got) != shown(want) {
		b.t.Errorf("View(t) = %s; want %s", shown(got), shown(want))
	}
}

// rangesOf gives the ranges of logical blocks, plainly.
func rangesOf(mapped []int) []api.Range {
	is := map[int]int{}
	for _, l := range mapped {
		is[l] = 1
	}
	var out []api.Range
	for _, l := range slices.Sorted(slices.Values(mapped)) {
		if is[l-1] == 0 {
			out = append(out, api.Range{From: l, To: l + 1})
		}
		out[len(out)-1].To = l + 1
	}
	return out
}

func TestP9_6RangesOfMappedBlocks(t *testing.T) {
	for i, mapped := range [][]int{
		nil, {0}, {262143}, {0, 262143}, {5, 6, 7}, {7, 5, 6}, {5, 7}, {63, 64}, {62, 63, 65}, {4095, 4096}, {4094, 4096},
		{64*64*3 - 1, 64 * 64 * 3}, {1, 2, 4, 5, 7, 8}, {3, 2, 1, 0}, {100, 200, 101, 201, 199}, {0, 64, 4096, 1, 65, 4097},
	} {
		b := made(t, 400, 100)
		entry := b.put("a", mapped...)
		want := api.View{Capacity: 100, Next: 2, Volumes: []api.Volume{{Name: "a", ID: 1, Size: 262144, Mapped: rangesOf(mapped)}}}
		need, e := b.p.Map().NeedAll(b.x, entry.Root, 0, 0)
		if e != api.OK || need != 0 {
			t.Fatalf("NeedAll = %d, %d", need, e)
		}
		tiles, _ := b.p.Map().Walk(b.x, entry.Root)
		want.Free = 100 - len(tiles)
		b.checkView(want)
		b.commit()
		b.checkView(want)
		b.seen().checkView(want)
		if t.Failed() {
			t.Fatalf("that was number %d: %v", i, mapped)
		}
	}
}

// Every field of an entry is told, and volumes stand by the bytes of their names.
func TestP9_6Volumes(t *testing.T) {
	b := made(t, 400, 100)
	names := []string{"b", "a", "ab", "a.", "a~", "a0", "~", "~a", "z", "a@", strings.Repeat("z", 31), strings.Repeat("z", 30)}
	var want []api.Volume
	for i, name := range names {
		entry := b.put(name, i*7)
		entry.Size, entry.Origin, entry.Kind, entry.Partial = 100+i, i*1000, i%2, i%3 == 0
		b.lay(entry)
		want = append(want, api.Volume{Name: name, ID: i + 1, Size: 100 + i, Origin: i * 1000, Kind: i % 2, Partial: i%3 == 0, Mapped: rangesOf([]int{i * 7})})
	}
	slices.SortFunc(want, func(a, b api.Volume) int { return strings.Compare(a.Name, b.Name) })
	v := api.View{Capacity: 100, Free: 100 - 4*len(names), Next: len(names) + 1, Volumes: want}
	b.checkView(v)
	b.commit()
	b.checkView(v)
	if e := b.p.Catalog().Remove(b.x, 3); e != api.OK {
		t.Fatalf("Remove(t, 3) = %d", e)
	}
	v.Volumes = slices.DeleteFunc(slices.Clone(want), func(v api.Volume) bool { return v.ID == 3 })
	b.checkView(v)
	b.abort()
	v.Volumes = want
	b.checkView(v)
}

// Volumes that share a map, wholly and in part.
func TestP9_6SharedMaps(t *testing.T) {
	b := made(t, 400, 100)
	a := b.put("a", 5, 6, 70)
	if e := b.p.Map().Share(b.x, a.Root); e != api.OK {
		t.Fatalf("Share = %d", e)
	}
	s := b.put("s")
	s.Root, s.Origin, s.Kind = a.Root, a.ID, api.KindSnap
	b.lay(s)
	volumes := []api.Volume{{Name: "a", ID: 1, Size: 262144, Mapped: rangesOf([]int{5, 6, 70})}, {Name: "s", ID: 2, Size: 262144, Origin: 1, Kind: 1, Mapped: rangesOf([]int{5, 6, 70})}}
	b.checkView(api.View{Capacity: 100, Free: 93, Next: 3, Volumes: volumes})
	root, _, e := b.p.Map().Assign(b.x, a.Root, 7)
	if e != api.OK {
		t.Fatalf("Assign = %d", e)
	}
	a.Root = root
	b.lay(a)
	volumes[0].Mapped = rangesOf([]int{5, 6, 7, 70})
	b.checkView(api.View{Capacity: 100, Free: 89, Next: 3, Volumes: volumes})
}

// Free is what layer 6 says is free in t: what t lets go is not.
func TestP9_6WhatIsFreeInTheTransaction(t *testing.T) {
	b := made(t, 400, 100)
	a := b.put("a", 1)
	b.commit()
	if e := b.p.Map().Release(b.x, a.Root); e != api.OK {
		t.Fatalf("Release = %d", e)
	}
	a.Root = 0
	b.lay(a)
	v := api.View{Capacity: 100, Free: 96, Next: 2, Volumes: []api.Volume{{Name: "a", ID: 1, Size: 262144}}}
	b.checkView(v)
	b.commit()
	v.Free = 100
	b.checkView(v)
	b.checkUnwritten("View")
	if _, e := b.p.Catalog().Take(b.x); e != api.OK {
		t.Fatalf("Take = %d", e)
	}
	b.alloc(3)
	v.Free, v.Next = 97, 3
	b.checkView(v)
}

func TestP9_6MarksAndBack(t *testing.T) {
	b := made(t, 400, 100)
	states := []string{b.state()}
	for i := range 5 {
		if m := b.mark(); m != i {
			t.Fatalf("Mark() = %d; want %d", m, i)
		}
		b.put("v"+string(rune('a'+i)), i*64, i*64+1)
		b.checkExtend(101+i, api.OK)
		b.checkSetSlot(slotOf(api.SlotDone, i*20, 0, manyOps(i*20, uint32(i))...), api.OK)
		states = append(states, b.state())
	}
	for _, i := range []int{4, 3, 1, 0} {
		b.back(i)
		if b.state() != states[i] {
			t.Errorf("behind Back(%d) the pool is another than at the mark", i)
		}
	}
	b.checkUnwritten("what was gone back over")
	b.checkEmpty(100)
}

// All 64 volumes, of which all but one have the same map.
func TestP9_6ManyVolumes(t *testing.T) {
	b := made(t, 400, 100)
	first := b.put("v00", 3, 4, 5000)
	for i := 1; i < 64; i++ {
		if e := b.p.Map().Share(b.x, first.Root); e != api.OK {
			t.Fatalf("Share = %d", e)
		}
		entry := b.put("v" + string(rune('0'+i/10)) + string(rune('0'+i%10)))
		entry.Root = first.Root
		b.lay(entry)
	}
	root, _, e := b.p.Map().Assign(b.x, first.Root, 3)
	if e != api.OK {
		t.Fatalf("Assign = %d", e)
	}
	root, e = b.p.Map().Drop(b.x, root, 4, 262144)
	if e != api.OK {
		t.Fatalf("Drop = %d", e)
	}
	first.Root = root
	b.lay(first)
	v := b.view()
	if len(v.Volumes) != 64 || v.Next != 65 {
		t.Fatalf("View tells %d volumes, next %d", len(v.Volumes), v.Next)
	}
	for i, volume := range v.Volumes {
		want := rangesOf([]int{3, 4, 5000})
		if i == 0 {
			want = rangesOf([]int{3})
		}
		if volume.ID != i+1 || !slices.Equal(volume.Mapped, want) {
			t.Errorf("volume %d is %s", i, shown(volume))
		}
	}
}

func TestR4WhatViewHandsOutIsNew(t *testing.T) {
	b := made(t, 400, 100)
	a := b.put("a", 1, 3, 5)
	if e := b.p.Map().Share(b.x, a.Root); e != api.OK {
		t.Fatalf("Share = %d", e)
	}
	s := b.put("s")
	s.Root = a.Root
	b.lay(s)
	want := shown(b.view())
	one, two := b.view(), b.view()
	for i, v := range one.Volumes {
		_ = append(v.Mapped, api.Range{From: 77, To: 78})
		for k := range v.Mapped[:cap(v.Mapped)] {
			v.Mapped[:cap(v.Mapped)][k] = api.Range{From: 9, To: 9}
		}
		if i == 0 && shown(one.Volumes[1]) != shown(two.Volumes[1]) {
			t.Errorf("two lists of one view share their memory")
		}
	}
	for i := range one.Volumes[:cap(one.Volumes)] {
		one.Volumes[:cap(one.Volumes)][i] = api.Volume{Name: "spoilt"}
	}
	if shown(two) != want || shown(b.view()) != want {
		t.Errorf("who writes into a view changes another one")
	}
}

func TestP9_9ExtendAtTheEdges(t *testing.T) {
	b := made(t, 400, 100)
	for _, c := range []int{math.MinInt, -1, 0, 1, 15, 16, 17, 99, 100, 262145, math.MaxInt} {
		b.checkExtend(c, api.ErrPoolCapacity)
	}
	for _, c := range []int{137, 138, 262143, 262144} {
		b.checkExtend(c, api.ErrPoolSize)
	}
	b.checkUnwritten("a refused Extend")
	b.checkEmpty(100)
	for c := 101; c <= 136; c++ {
		b.checkExtend(c, api.OK)
		b.checkExtend(c, api.ErrPoolCapacity)
		b.checkExtend(c-1, api.ErrPoolCapacity)
		b.checkEmpty(c)
	}
	b.checkExtend(137, api.ErrPoolSize)
	b.commit()
	b.checkEmpty(136)
	for _, c := range []int{100, 136, 262145} {
		b.checkExtend(c, api.ErrPoolCapacity)
	}
	b.checkExtend(137, api.ErrPoolSize)
}

func TestP9_9ExtendToTheGreatestCapacity(t *testing.T) {
	b := made(t, 278784, 1)
	for _, c := range []int{15, 16, 17, 262143} {
		b.checkExtend(c, api.OK)
		if v := b.view(); v.Capacity != c || v.Free != c {
			t.Errorf("View behind Extend(t, %d) = %s", c, shown(v))
		}
	}
	b.checkExtend(262145, api.ErrPoolCapacity)
	b.checkExtend(262144, api.OK)
	b.checkExtend(262144, api.ErrPoolCapacity)
	b.checkExtend(262145, api.ErrPoolCapacity)
	b.commit()
	if v := b.view(); v.Capacity != 262144 || v.Free != 262144 {
		t.Errorf("View = %s", shown(v))
	}
}

// The new pool blocks are free at once, and the old ones are as they were.
func TestP9_9TheNewPoolBlocksAreFree(t *testing.T) {
	b := made(t, 400, 100)
	b.alloc(100)
	b.commit()
	b.checkExtend(110, api.OK)
	if v := b.view(); v.Capacity != 110 || v.Free != 10 {
		t.Errorf("View = %s", shown(v))
	}
	for want := 101; want <= 105; want++ {
		if n, e := b.p.Space().Alloc(b.x); n != want || e != api.OK {
			t.Errorf("Alloc(t) = %d, %d; want %d", n, e, want)
		}
	}
	m := b.mark()
	b.checkExtend(136, api.OK)
	b.alloc(31)
	b.back(m)
	if v := b.view(); v.Capacity != 110 || v.Free != 5 {
		t.Errorf("View behind Back = %s", shown(v))
	}
	b.abort()
	if v := b.view(); v.Capacity != 100 || v.Free != 0 {
		t.Errorf("View behind Abort = %s", shown(v))
	}
	b.checkExtend(101, api.OK)
	b.commit()
	b.sync()
	if v := b.lasting().view(); v.Capacity != 101 || v.Free != 1 {
		t.Errorf("View of what lasts = %s", shown(v))
	}
}

func TestP9_10SpaceMapAndCatalog(t *testing.T) {
	b := made(t, 400, 100)
	s, m, k := b.p.Space(), b.p.Map(), b.p.Catalog()
	if s == nil || m == nil || k == nil || s != b.p.Space() || m != b.p.Map() || k != b.p.Catalog() {
		t.Fatalf("Space, Map and Catalog are not always the pool's own")
	}
	if m.Space != s {
		t.Errorf("Map() does not lie over Space()")
	}
	other := made(t, 400, 100)
	if n, e := s.Free(other.x); n != 0 || e != api.ErrTxnForeign {
		t.Errorf("Free with another pool's transaction = %d, %d", n, e)
	}
	if n, e := k.Next(other.x); n != 0 || e != api.ErrTxnForeign {
		t.Errorf("Next with another pool's transaction = %d, %d", n, e)
	}
	if n, e := m.Find(other.x, 0, 0); n != 0 || e != api.ErrTxnForeign {
		t.Errorf("Find with another pool's transaction = %d, %d", n, e)
	}
	// A map's blocks lie where Place says.
	root, block, e := m.Assign(b.x, 0, 5)
	if e != api.OK {
		t.Fatalf("Assign = %d", e)
	}
	b.write(block, full(9))
	for _, at := range []int{root, block} {
		if n, e := s.Count(b.x, at); n != 1 || e != api.OK {
			t.Errorf("Count(t, %d) = %d, %d", at, n, e)
		}
	}
	before := b.read(root)
	b.write(root, full(0))
	if n, e := m.Find(b.x, root, 5); n != 0 || e != api.ErrRadixNode {
		t.Errorf("Find where the root is written over = %d, %d", n, e)
	}
	b.write(root, before)
	if n, e := m.Find(b.x, root, 5); n != block || e != api.OK {
		t.Errorf("Find = %d, %d; want %d", n, e, block)
	}
	// The room of the counts is the disk's bound.
	if e := s.Grow(b.x, 137); e != api.ErrSpaceCount {
		t.Errorf("Grow(t, 137) = %d", e)
	}
	if e := s.Grow(b.x, 136); e != api.OK || b.view().Capacity != 136 {
		t.Errorf("Grow(t, 136) = %d, View = %s", e, shown(b.view()))
	}
}

// What the map lays in a pool block stands where Place says of that block, and nowhere else.
func TestP9_13TheMapsBlocksLieWherePlaceSays(t *testing.T) {
	b := made(t, 300, 20)
	for block := 1; block <= b.bound(); block++ {
		b.write(block, full(byte(block)))
	}
	b.alloc(3)
	b.commit()
	root, _, e := b.p.Map().Assign(b.x, 0, 5)
	if e != api.OK {
		t.Fatalf("Assign = %d", e)
	}
	tiles, e := b.p.Map().Walk(b.x, root)
	if e != api.OK || len(tiles) != 4 {
		t.Fatalf("Walk = %v, %d", tiles, e)
	}
	nodes := map[int]int{}
	for _, tile := range tiles[:3] {
		nodes[tile.Block] = 1
	}
	for block := 1; block <= b.bound(); block++ {
		if isChanged := !bytes.Equal(b.read(block), full(byte(block))); isChanged != (nodes[block] == 1) {
			t.Errorf("Assign has changed pool block %d: %v; its nodes are %v", block, isChanged, tiles[:3])
		}
	}
}
