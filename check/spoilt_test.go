package check_test

import (
	"bytes"
	"fmt"
	"slices"
	"testing"

	"cistern/api"
	"cistern/check"
	"cistern/field"
	"cistern/pool"
	"cistern/txn"
)

// A count that is more, and fewer down to 0: of each node on a way, of a data block, alone and shared.
func TestP14_4CountsOfWhatIsReached(t *testing.T) {
	for _, at := range []struct {
		name string
		l    int
	}{{"o", 64}, {"a", 0}, {"s", 4999}, {"c", 70}, {"l", 262143}} {
		way := used(t).path(at.name, at.l)
		for level, block := range way {
			b := used(t)
			references := b.count(block)
			what := fmt.Sprintf("%s at %d, level %d", at.name, at.l, level)
			for more := 1; more <= 3; more++ {
				b.ref(block)
				b.check(what+", more", counted(block, references+more, references))
			}
			b.unref(block, block, block)
			b.checkFits(what + ", as it was")
			for left := references - 1; left >= 0; left-- {
				b.unref(block)
				b.check(what+", fewer", counted(block, left, references))
			}
			b.again()
			b.check(what+", opened anew", counted(block, 0, references))
		}
	}
}

// count gives the references that the space counts of a pool block.
func (b *bench) count(block int) int {
	b.t.Helper()
	x := b.begin()
	defer x.Abort()
	n, e := b.p.Space().Count(x, block)
	if e != api.OK {
		b.t.Fatalf("Count(t, %d) = %d", block, e)
	}
	return n
}

// Pool blocks that nothing reaches: one, several, with several references, with as many as there may be; the first and the last.
func TestP14_4CountsOfWhatNothingReaches(t *testing.T) {
	b := made(t, 20, 30)
	var want []api.Problem
	for block := 1; block <= 20; block++ {
		if got := b.alloc(); got != block {
			t.Fatalf("Alloc gives %d; want %d", got, block)
		}
		want = append(want, counted(block, 1, 0))
		b.check("taken by nobody", want...)
	}
	b.ref(20, 20, 7)
	want[19].Found, want[6].Found = 3, 2
	for range 249 {
		b.ref(1)
	}
	want[0].Found = 250
	b.check("taken by nobody, with many references", want...)
	b.do(extend(40))
	b.check("behind Extend", want...)
	b.unref(20, 20, 20)
	b.check("one less", want[:19]...)
}

// More and fewer, of nodes, of data and of what nothing reaches at once: by rising pool block.
func TestP14_4CountsOfManyAtOnce(t *testing.T) {
	b := used(t)
	way := b.path("o", 64)
	leak := b.alloc()
	b.unref(way[1])
	b.ref(way[3], way[0])
	want := []api.Problem{counted(way[0], 2, 1), counted(way[1], 0, 1), counted(way[3], 2, 1), counted(leak, 1, 0)}
	slices.SortFunc(want, func(x, y api.Problem) int { return x.Where - y.Where })
	b.check("many counts", want...)
}

// A root that the pool does not have, at its edge, and as high as an entry may have it: the counts are not asked.
func TestP14_4ARootAboveTheCapacity(t *testing.T) {
	for _, root := range []int{301, 302, 336, 337, 262144} {
		b := used(t)
		old := b.get("o").Root
		b.setRoot("o", root)
		b.alloc()
		b.check("a root beyond", api.Problem{Kind: api.ProblemRoot, Where: 5, Found: root, Wanted: 300})
		b.setSize("o", 1)
		b.check("a root beyond, of a size of 1", api.Problem{Kind: api.ProblemRoot, Where: 5, Found: root, Wanted: 300})
		b.setRoot("o", old)
		b.unref(b.lastTaken())
		b.check("the root again", api.Problem{Kind: api.ProblemSize, Where: 5, Found: 70, Wanted: 1})
	}
}

// lastTaken gives the highest pool block that has references.
func (b *bench) lastTaken() int {
	b.t.Helper()
	for block := b.size(); block > 0; block-- {
		if b.count(block) > 0 {
			return block
		}
	}
	b.t.Fatalf("no pool block has a reference")
	return 0
}

// What lies beyond the capacity lies in the pool behind Extend; what stands there is no node.
func TestP14_4ARootThatExtendBringsIn(t *testing.T) {
	b := used(t)
	b.setRoot("e", 336)
	b.check("a root beyond", api.Problem{Kind: api.ProblemRoot, Where: 4, Found: 336, Wanted: 300})
	b.do(extend(335))
	b.check("a root one beyond", api.Problem{Kind: api.ProblemRoot, Where: 4, Found: 336, Wanted: 335})
	b.do(extend(336))
	b.check("a root in the pool", api.Problem{Kind: api.ProblemNode, Where: 336})
}

// Another root: none, another volume's, one that two have then, an old one.
func TestP14_4AnotherRoot(t *testing.T) {
	b := used(t)
	a, o, l := b.get("a"), b.get("o"), b.get("l")
	b.setRoot("e", o.Root)
	b.check("the same root in two entries, one too small", counted(o.Root, 1, 2), api.Problem{Kind: api.ProblemSize, Where: 4, Found: 70, Wanted: 50})
	b.setSize("e", 70)
	b.check("the same root in two entries", counted(o.Root, 1, 2))
	b.ref(o.Root)
	b.checkFits("the same root in two entries, counted")
	b.unref(o.Root)
	b.setRoot("e", 0)
	b.checkFits("none again")
	// Nobody reaches what o had: all of it is counted and not referenced.
	way := map[int]int{}
	for _, at := range []int{1, 64, 65, 66, 67, 68, 69} {
		for _, block := range b.path("o", at) {
			way[block]++
		}
	}
	b.setRoot("o", 0)
	var want []api.Problem
	for block := range 301 {
		if way[block] > 0 {
			want = append(want, counted(block, 1, 0))
		}
	}
	b.check("no root", want...)
	b.setRoot("o", o.Root)
	// a's root is l's: what a had alone is nobody's.
	b.setRoot("l", a.Root)
	if got := b.checkByModel("a's root in l"); len(got) != 8 || !slices.Contains(got, counted(a.Root, 1, 2)) {
		t.Errorf("a's root in l: Check = %v; want eight counts", got)
	}
	b.setRoot("l", l.Root)
	b.checkFits("as it was")
}

// What was a root once, and is free now: Walk tells it as it stands.
func TestP14_4ARootThatIsFree(t *testing.T) {
	b := used(t)
	o := b.get("o")
	b.do(remove("o"))
	b.setRoot("e", o.Root)
	b.setSize("e", 70)
	got := b.checkByModel("a root that is free")
	if len(got) != 11 {
		t.Errorf("a root that is free: Check = %v; want eleven counts", got)
	}
	for _, p := range got {
		if p.Kind != api.ProblemCount || p.Found != 0 || p.Wanted != 1 {
			t.Errorf("a root that is free: %v", p)
		}
	}
}

// A root that is no map's: the calls end, and tell what Walk leads to.
func TestP14_4ARootThatIsNoMaps(t *testing.T) {
	for root := 1; root <= 300; root += 3 {
		b := used(t)
		b.setRoot("e", root)
		b.checkByModel("a root that is no map's")
	}
}

func TestP14_4Origins(t *testing.T) {
	origin := func(where int, found int) api.Problem {
		return api.Problem{Kind: api.ProblemOrigin, Where: where, Found: found}
	}
	b := used(t)
	b.do(remove("t"), create("n", 5))
	n := b.get("n").ID
	// Of a volume: none, a lower one that is there, one that was there, its own, the next one's, none that was ever there.
	b.setOrigin("o", 0)
	b.checkFits("no origin")
	b.setOrigin("o", 1)
	b.checkFits("a lower one")
	b.setOrigin("n", 7)
	b.check("one that was there", origin(n, 7))
	b.setOrigin("n", n-2)
	b.checkFits("a lower one")
	b.setOrigin("n", n)
	b.check("its own", origin(n, n))
	b.setOrigin("n", 1<<30)
	b.check("one that never was", origin(n, 1<<30))
	b.setOrigin("n", n+1)
	b.check("one that is still to come", origin(n, n+1))
	b.setOrigin("o", 6)
	b.check("and a higher one that is there", origin(5, 6), origin(n, n+1))
	b.setOrigin("n", 0)
	b.setOrigin("o", 0)
	// Of snapshots.
	b.setOrigin("s", 0)
	b.check("a snapshot of nothing", origin(2, 0))
	b.entry("s", func(v *api.Entry) { v.Kind = api.KindVolume })
	b.checkFits("a volume of nothing")
	b.entry("s", func(v *api.Entry) { v.Kind, v.Origin = api.KindSnap, 2 })
	b.check("a snapshot of itself", origin(2, 2))
	b.setOrigin("s", 3)
	b.check("a snapshot of a higher one", origin(2, 3))
	b.setOrigin("s", 1)
	b.checkFits("as it was")
	b.entry("e", func(v *api.Entry) { v.Kind = api.KindSnap })
	b.check("an empty snapshot of nothing", origin(4, 0))
}

// The sizes at the edge of what is mapped, and far below it.
func TestP14_4Sizes(t *testing.T) {
	for _, x := range []struct {
		name string
		id   int
		past int // the greatest mapped block and 1
		size int
	}{{"o", 5, 70, 70}, {"l", 6, 262144, 262144}, {"c", 3, 5000, 5000}, {"a", 1, 5000, 5000}, {"s", 2, 5000, 5000}, {"t", 7, 5000, 5000}} {
		b := used(t)
		for _, size := range []int{x.past - 1, x.past - 2, 4999, 4097, 4096, 70, 65, 64, 63, 2, 1} {
			b.setSize(x.name, size)
			if size >= x.past {
				b.checkFits("a size above what is mapped")
				continue
			}
			b.check("a size below what is mapped", api.Problem{Kind: api.ProblemSize, Where: x.id, Found: x.past, Wanted: size})
		}
		b.setSize(x.name, x.past)
		b.checkFits("a size at the edge")
		b.setSize(x.name, 262144)
		b.checkFits("the greatest size")
	}
	b := used(t)
	b.setSize("e", 1)
	b.checkFits("a size of 1 where nothing is mapped")
	b.setSize("s", 5)
	b.setSize("t", 4999)
	b.check("two that share all", api.Problem{Kind: api.ProblemSize, Where: 2, Found: 5000, Wanted: 5}, api.Problem{Kind: api.ProblemSize, Where: 7, Found: 5000, Wanted: 4999})
}

// A node that two volumes reach names a block once; two nodes name it twice, and a root has one more for each volume.
func TestP14_4WhatNamesABlock(t *testing.T) {
	b := made(t, 100, 0)
	b.do(create("a", 9000), write("a", 0, full(1)), write("a", 64, full(2)), write("a", 4096, full(3)), snap("s", "a"))
	way := b.path("a", 0)
	for level, want := range []int{2, 1, 1, 1} {
		b.ref(way[level])
		b.check("one node in two volumes", counted(way[level], want+1, want))
		b.unref(way[level])
	}
	// a has other nodes now: beside the way to 64 two of the first level name the node of 4096, and two of the second 0's last node.
	b.do(write("a", 64, full(4)))
	for at, want := range map[int]int{b.path("a", 4096)[1]: 2, way[2]: 2, way[3]: 1, b.path("s", 64)[2]: 1, b.path("a", 64)[3]: 1} {
		b.ref(at)
		b.check("two nodes, or one", counted(at, want+1, want))
		b.unref(at)
	}
	b.checkFits("as it was")
}

// place gives the disk's block in which a pool block lies.
func (b *bench) place(block int) int {
	b.t.Helper()
	at, e := b.p.Place(block)
	if e != api.OK {
		b.t.Fatalf("Place(%d) = %d", block, e)
	}
	return at
}

// change commits another block of the disk in the place of one.
func (b *bench) change(at int, do func(block []byte) []byte) {
	b.t.Helper()
	b.within("a change", func(x *txn.Txn) api.Errno {
		block, e := x.Read(at)
		if e != api.OK {
			return e
		}
		return x.Write(at, do(block))
	})
}

func wipe([]byte) []byte { return full(0) }

// changeBody changes what a node holds, as the maps lay it: in the body of a stamped block, three bytes an entry.
func (b *bench) changeBody(node int, do func(body []byte)) {
	b.t.Helper()
	b.change(b.place(node), func(block []byte) []byte {
		kind, seq, body, e := field.Unstamp(block)
		if e != api.OK {
			b.t.Fatalf("Unstamp = %d", e)
		}
		do(body)
		block, e = field.Stamp(kind, seq, body)
		if e != api.OK {
			b.t.Fatalf("Stamp = %d", e)
		}
		return block
	})
}

// putEntry lays an entry of a node.
func putEntry(body []byte, slot int, block int) {
	entry, _ := field.Pack(api.Field{Width: 3, Value: block})
	copy(body[3*slot:], entry)
}

// A node that names a pool block in two of its entries names it once.
func TestP14_4ANodeThatNamesABlockTwice(t *testing.T) {
	b := made(t, 100, 0)
	b.do(create("a", 100), write("a", 5, full(1)), write("a", 6, full(3)), write("a", 7, full(2)))
	way, other := b.path("a", 5), b.path("a", 7)[3]
	b.changeBody(way[2], func(body []byte) {
		putEntry(body, 7, way[3])
		putEntry(body, 50, way[3])
	})
	b.check("a block that is named three times by one node", counted(other, 1, 0))
	b.setSize("a", 50)
	b.check("mapped beyond the size too", counted(other, 1, 0), api.Problem{Kind: api.ProblemSize, Where: 1, Found: 51, Wanted: 50})
}

// Two nodes of one map name the same pool block: it has two references.
func TestP14_4TwoNodesOfOneMapThatNameABlock(t *testing.T) {
	b := made(t, 100, 0)
	b.do(create("a", 100), write("a", 5, full(1)), write("a", 70, full(2)))
	one, other := b.path("a", 5), b.path("a", 70)
	b.changeBody(one[2], func(body []byte) { putEntry(body, 5, other[3]) })
	want := []api.Problem{counted(one[3], 1, 0), counted(other[3], 1, 2)}
	slices.SortFunc(want, func(x, y api.Problem) int { return x.Where - y.Where })
	b.check("a block that two nodes name", want...)
}

// A pool block that is data in one volume and a node in another, whichever of them comes first: a node is walked all the same.
func TestP14_4ABlockThatIsDataAndANode(t *testing.T) {
	for _, name := range []string{"n", "p"} {
		b := used(t)
		var data []int
		for _, l := range []int{1, 64, 65, 66, 67, 68, 69} {
			data = append(data, b.path("o", l)[3])
		}
		b.unref(data...)
		b.do(create(name, 5), write(name, 3, full(1)))
		way := b.path(name, 3)
		var want []api.Problem
		for _, block := range data {
			if slices.Contains(way, block) {
				want = append(want, counted(block, 1, 2))
			} else {
				want = append(want, counted(block, 0, 1))
			}
		}
		if !slices.Contains(data, way[0]) || !slices.Contains(data, way[2]) {
			t.Fatalf("of the blocks %v none became nodes: %v", data, way)
		}
		slices.SortFunc(want, func(x, y api.Problem) int { return x.Where - y.Where })
		b.check("data of o that is "+name+"'s", want...)
	}
}

// A node that can be none: told by the roots that lead to it, each once, with all but the counts.
func TestP14_1NodesThatCanBeNone(t *testing.T) {
	node := func(root int) api.Problem { return api.Problem{Kind: api.ProblemNode, Where: root} }
	b := used(t)
	root := b.get("o").Root
	b.change(b.place(root), wipe)
	b.alloc()
	b.check("a root", node(root))
	b.setSize("o", 1)
	b.setSize("l", 1)
	b.setRoot("e", 301)
	b.check("other kinds beside it", node(root), api.Problem{Kind: api.ProblemRoot, Where: 4, Found: 301, Wanted: 300}, api.Problem{Kind: api.ProblemSize, Where: 6, Found: 262144, Wanted: 1})

	// s and t have one root, a and c another each; all four share the node of 4096 to 8191, and that of 4992 to 5055.
	for _, level := range []int{1, 2} {
		b = used(t)
		roots := []int{b.get("a").Root, b.get("c").Root, b.get("s").Root}
		if b.get("t").Root != roots[2] {
			t.Fatalf("s and t have not one root")
		}
		slices.Sort(roots)
		for _, name := range []string{"a", "c", "s", "t"} {
			if b.path(name, 4999)[level] != b.path("a", 4999)[level] {
				t.Fatalf("a and %s do not share a node", name)
			}
		}
		b.change(b.place(b.path("a", 4999)[level]), func([]byte) []byte { return noise(512, 3) })
		b.check("a node that is shared", node(roots[0]), node(roots[1]), node(roots[2]))
		b.again()
		b.check("a node that is shared, opened anew", node(roots[0]), node(roots[1]), node(roots[2]))
	}
}

// A node in a volume's map that the walk of the volume ahead of it came to before it came to what can be none.
func TestP14_1NodesBesideOneThatCanBeNone(t *testing.T) {
	b := made(t, 200, 0)
	b.do(create("a", 9000), write("a", 0, full(1)), write("a", 64, full(2)), write("a", 4096, full(3)))
	b.do(snap("b", "a"), write("a", 4096, full(4)), snap("c", "b"), discard("c", 4096, 4097))
	b.do(clone("d", "a"), discard("d", 0, 4096), write("d", 5000, full(5)))
	a, s := b.get("a").Root, b.get("b").Root
	// What a and b share at 64 can be none, where c shares it too; d shares only what lies behind it.
	b.change(b.place(b.path("a", 64)[2]), wipe)
	roots := []int{a, s, b.get("c").Root}
	slices.Sort(roots)
	var want []api.Problem
	for _, root := range roots {
		want = append(want, api.Problem{Kind: api.ProblemNode, Where: root})
	}
	b.setSize("d", 1)
	b.check("three that share a node", append(want, api.Problem{Kind: api.ProblemSize, Where: 4, Found: 5001, Wanted: 1})...)
}

// A name that may not be, and one that another volume has: no face makes them, so the bytes are changed on the disk.
func TestP14_1Names(t *testing.T) {
	name := func(id int) api.Problem { return api.Problem{Kind: api.ProblemName, Where: id} }
	start := func() *bench {
		b := made(t, 100, 0)
		b.do(create("volume-one", 5), create("volume-two", 6), create("volume-six", 7), write("volume-two", 5, full(1)))
		b.checkFits("three names")
		return b
	}
	b := start()
	b.rename("volume-two", "Volume-two")
	b.check("a name that may not be", name(2))
	b = start()
	b.rename("volume-two", "volume-one")
	b.check("the name of a lower one", name(2))
	b = start()
	b.rename("volume-one", "volume-six")
	b.check("the name of a higher one", name(3))
	b.rename("volume-two", "volume-six")
	b.check("one name of three", name(2), name(3))
	b = start()
	b.rename("volume-one", "volume-!ne")
	b.rename("volume-six", "volume-!ne")
	b.check("a name that may not be, of two", name(1), name(3))
	b.rename("volume-two", "volume two")
	b.check("three that may not be", name(1), name(2), name(3))
}

// rename changes a name where it lies on the disk, once.
func (b *bench) rename(old string, to string) {
	b.t.Helper()
	blocks, _ := b.d.Blocks()
	x := b.begin()
	for at := range blocks {
		block, e := x.Read(at)
		if e != api.OK || !bytes.Contains(block, []byte(old)) {
			continue
		}
		x.Write(at, bytes.Replace(block, []byte(old), []byte(to), 1))
		if e := x.Commit(); e != api.OK {
			b.t.Fatalf("Commit() = %d", e)
		}
		return
	}
	b.t.Fatalf("%s is not found on the disk", old)
}

// A size that no catalog lays, above all that may be: nothing is mapped there.
func TestP14_1ASizeAboveAllThatMayBe(t *testing.T) {
	b := used(t)
	b.setSize("l", 0x10101)
	var before []byte
	at := b.whatChanges(func() { b.setSize("l", 0x22222) })
	if len(at) != 1 {
		t.Fatalf("a size lies in the blocks %v", at)
	}
	b.change(at[0], func(block []byte) []byte {
		before = block
		return block
	})
	b.setSize("l", 0x10101)
	b.change(at[0], func(block []byte) []byte {
		for i := range block {
			if block[i] != before[i] {
				block[i] = 255
			}
		}
		return block
	})
	if size := b.get("l").Size; size <= 262144 {
		t.Fatalf("the size is %d", size)
	}
	b.checkFits("a size above all that may be")
}

// A slot that is none, alone and with other problems; a slot that was gone is there again.
func TestP14_1Slots(t *testing.T) {
	b := used(t)
	ops := slices.Repeat([]api.Op{rename("0123456789012345678901234567890", "0123456789012345678901234567890")}, 60)
	at := b.whatChanges(func() { b.setSlot(api.Slot{State: api.SlotRunning, Ops: ops}) })
	slot := api.Problem{Kind: api.ProblemSlot, Found: int(api.ErrPoolSlot)}
	if len(at) < 2 {
		t.Fatalf("a program of 60 lies in the blocks %v", at)
	}
	for _, block := range at {
		var old []byte
		b.change(block, func(was []byte) []byte {
			old = was
			return noise(512, 9)
		})
		b.check("a slot that is none", slot)
		b.change(block, func([]byte) []byte { return old })
		b.checkFits("the slot again")
	}
	b.change(at[0], wipe)
	b.setOrigin("s", 0)
	b.setSize("l", 9)
	b.setRoot("e", 262144)
	b.check("with others",
		api.Problem{Kind: api.ProblemRoot, Where: 4, Found: 262144, Wanted: 300},
		api.Problem{Kind: api.ProblemOrigin, Where: 2},
		api.Problem{Kind: api.ProblemSize, Where: 6, Found: 262144, Wanted: 9},
		slot)
	b.setSlot(api.Slot{})
	b.setOrigin("s", 1)
	b.setSize("l", 262144)
	b.setRoot("e", 0)
	b.checkFits("all as it was")
}

// whatChanges tells which blocks of the disk a call changes for those who read through a transaction.
func (b *bench) whatChanges(do func()) []int {
	b.t.Helper()
	blocks, _ := b.d.Blocks()
	seen := func() [][]byte {
		x := b.begin()
		defer x.Abort()
		out := make([][]byte, blocks)
		for at := range out {
			out[at], _ = x.Read(at)
		}
		return out
	}
	before := seen()
	do()
	var changed []int
	for at, block := range seen() {
		if !bytes.Equal(block, before[at]) {
			changed = append(changed, at)
		}
	}
	return changed
}

// Any one block of the disk is another, with the pool open and opened anew: the problems that the chapter's words say, or the error
// of reading as it is; and nothing is changed.
func TestP14_1ASpoiltBlock(t *testing.T) {
	met := map[string]int{}
	blocks, _ := used(t).d.Blocks()
	for at := range blocks {
		for _, change := range []func(block []byte) []byte{
			wipe,
			func([]byte) []byte { return noise(512, uint32(at)) },
			func(block []byte) []byte { return append(bytes.Clone(block[:40]), full(85)[:472]...) },
		} {
			b := used(t)
			if !b.isUsed(at) {
				break
			}
			b.change(at, change)
			for range 2 {
				before := b.image()
				met[b.answer()]++
				b.checkByModel(fmt.Sprintf("block %d is another", at))
				if !bytes.Equal(b.image(), before) {
					t.Errorf("block %d is another: Check has changed the disk", at)
				}
				p, e := pool.Open(b.d)
				if e != api.OK {
					break
				}
				b.p = p
			}
		}
	}
	for _, answer := range []string{"fits", "problems", fmt.Sprint(int(api.ErrSpaceForm)), fmt.Sprint(int(api.ErrCatalogForm))} {
		if met[answer] == 0 {
			t.Errorf("no spoilt block led to this answer (%s): %v", answer, met)
		}
	}
}

// answer tells of which sort the answer of Check is.
func (b *bench) answer() string {
	b.t.Helper()
	got, e := check.Check(b.p)
	switch {
	case e != api.OK && len(got) > 0:
		b.t.Errorf("Check = %v, %d", got, e)
		return "both"
	case e != api.OK:
		return fmt.Sprint(int(e))
	case len(got) > 0:
		return "problems"
	}
	return "fits"
}

// isUsed tells whether a block of the disk can be read in a transaction and holds something.
func (b *bench) isUsed(at int) bool {
	b.t.Helper()
	x := b.begin()
	defer x.Abort()
	block, e := x.Read(at)
	return e == api.OK && !bytes.Equal(block, full(0))
}
