package check_test

import (
	"bytes"
	"fmt"
	"runtime"
	"slices"
	"testing"
	"time"

	"cistern/api"
	"cistern/check"
	"cistern/delta"
	"cistern/disk"
	"cistern/pool"
	"cistern/txn"
	"cistern/usage"
	"cistern/vol"
)

// full gives a block that is one byte all through.
func full(name byte) []byte { return bytes.Repeat([]byte{name}, 512) }

// noise gives bytes that look like chance and are the same in each run.
func noise(size int, seed uint32) []byte {
	out := make([]byte, size)
	for i := range out {
		seed = seed*1664525 + 1013904223
		out[i] = byte(seed >> 24)
	}
	return out
}

func create(name string, to int) api.Op { return api.Op{Kind: api.OpCreate, Name: name, To: to} }

func snap(name string, other string) api.Op {
	return api.Op{Kind: api.OpSnap, Name: name, Other: other}
}

func clone(name string, other string) api.Op {
	return api.Op{Kind: api.OpClone, Name: name, Other: other}
}

func resize(name string, to int) api.Op { return api.Op{Kind: api.OpResize, Name: name, To: to} }

func rename(name string, other string) api.Op {
	return api.Op{Kind: api.OpRename, Name: name, Other: other}
}

func remove(name string) api.Op { return api.Op{Kind: api.OpDelete, Name: name} }

func restore(name string, other string) api.Op {
	return api.Op{Kind: api.OpRestore, Name: name, Other: other}
}

func write(name string, from int, data []byte) api.Op {
	return api.Op{Kind: api.OpWrite, Name: name, From: from, Data: data}
}

func discard(name string, from int, to int) api.Op {
	return api.Op{Kind: api.OpDiscard, Name: name, From: from, To: to}
}

func fill(name string, from int, to int) api.Op {
	return api.Op{Kind: api.OpFill, Name: name, From: from, To: to}
}

func extend(to int) api.Op { return api.Op{Kind: api.OpExtend, To: to} }

// counted gives a problem of a pool block's count.
func counted(block int, found int, wanted int) api.Problem {
	return api.Problem{Kind: api.ProblemCount, Where: block, Found: found, Wanted: wanted}
}

// bench is a pool and its disk.
type bench struct {
	t *testing.T
	d *disk.Disk
	p *pool.Pool
}

// made gives a new pool of a capacity, on a disk that holds so many more pool blocks.
func made(t *testing.T, capacity int, more int) *bench {
	t.Helper()
	blocks, e := pool.Needed(capacity + more)
	if e != api.OK {
		t.Fatalf("Needed(%d) = %d", capacity+more, e)
	}
	d, e := disk.New(blocks)
	if e != api.OK {
		t.Fatalf("disk.New(%d) = %d", blocks, e)
	}
	if e := pool.Format(d, capacity); e != api.OK {
		t.Fatalf("Format(d, %d) = %d", capacity, e)
	}
	b := &bench{t: t, d: d}
	b.again()
	return b
}

func openDisk(t *testing.T, image []byte) *disk.Disk {
	t.Helper()
	d, e := disk.Open(image)
	if e != api.OK {
		t.Fatalf("disk.Open = %d", e)
	}
	return d
}

// opened gives the pool of an image, over a disk of its own.
func opened(t *testing.T, image []byte) *bench {
	t.Helper()
	b := &bench{t: t, d: openDisk(t, image)}
	b.again()
	return b
}

// again opens the pool anew over the same disk.
func (b *bench) again() {
	b.t.Helper()
	p, e := pool.Open(b.d)
	if e != api.OK {
		b.t.Fatalf("Open(d) = %d", e)
	}
	b.p = p
}

// fork gives another pool, over a disk of its own that holds what this one is seen to hold.
func (b *bench) fork() *bench {
	b.t.Helper()
	return opened(b.t, b.image())
}

func (b *bench) begin() *txn.Txn {
	b.t.Helper()
	x, e := b.p.Begin()
	if e != api.OK {
		b.t.Fatalf("Begin() = %d", e)
	}
	return x
}

// within does something in a transaction that is committed.
func (b *bench) within(what string, do func(x *txn.Txn) api.Errno) {
	b.t.Helper()
	x := b.begin()
	if e := do(x); e != api.OK {
		b.t.Fatalf("%s = %d", what, e)
	}
	if e := x.Commit(); e != api.OK {
		b.t.Fatalf("%s: Commit() = %d", what, e)
	}
}

// checkClosed holds that no transaction is open.
func (b *bench) checkClosed(what string) {
	b.t.Helper()
	x, e := b.p.Begin()
	if e != api.OK {
		b.t.Fatalf("behind %s Begin() = %d", what, e)
	}
	if e := x.Abort(); e != api.OK {
		b.t.Fatalf("Abort() = %d", e)
	}
}

// darken turns the power off.
func (b *bench) darken() {
	b.t.Helper()
	b.d.Fuse(0)
	if e := b.d.Flush(); e != api.ErrDiskOff {
		b.t.Fatalf("Flush() with a fuse of 0 = %d", e)
	}
}

func (b *bench) pending() []int {
	b.t.Helper()
	pending, e := b.d.Pending()
	if e != api.OK {
		b.t.Fatalf("Pending() = %d", e)
	}
	return pending
}

// firstPlaces gives the places 0 to n - 1.
func firstPlaces(n int) []int {
	places := make([]int, n)
	for i := range places {
		places[i] = i
	}
	return places
}

// crashed gives what a cut leaves of which these writes survive.
func (b *bench) crashed(keep []int) []byte {
	b.t.Helper()
	image, e := b.d.Crash(keep)
	if e != api.OK {
		b.t.Fatalf("Crash = %d", e)
	}
	return image
}

// image gives all that the disk is seen to hold.
func (b *bench) image() []byte {
	b.t.Helper()
	return b.crashed(firstPlaces(len(b.pending())))
}

// state gives all that a call must not change: the disk with what does not last, and what the pool tells.
func (b *bench) state() string {
	b.t.Helper()
	x := b.begin()
	defer x.Abort()
	view, e := b.p.View(x)
	slot, e2 := b.p.Slot(x)
	free, e3 := b.p.Space().Free(x)
	return fmt.Sprint(view, e, slot, e2, free, e3, b.pending()) + string(b.image())
}

// entry changes what the catalog holds of a volume.
func (b *bench) entry(name string, change func(v *api.Entry)) {
	b.t.Helper()
	b.within("Put of "+name, func(x *txn.Txn) api.Errno {
		v, e := b.p.Catalog().Find(x, name)
		if e != api.OK {
			return e
		}
		change(&v)
		return b.p.Catalog().Put(x, v)
	})
}

// get gives what the catalog holds of a volume.
func (b *bench) get(name string) api.Entry {
	b.t.Helper()
	x := b.begin()
	defer x.Abort()
	v, e := b.p.Catalog().Find(x, name)
	if e != api.OK {
		b.t.Fatalf("Find(t, %q) = %d", name, e)
	}
	return v
}

func (b *bench) setRoot(name string, root int) {
	b.t.Helper()
	b.entry(name, func(v *api.Entry) { v.Root = root })
}

func (b *bench) setOrigin(name string, origin int) {
	b.t.Helper()
	b.entry(name, func(v *api.Entry) { v.Origin = origin })
}

func (b *bench) setSize(name string, size int) {
	b.t.Helper()
	b.entry(name, func(v *api.Entry) { v.Size = size })
}

// setPartial says of volumes that they are partial, or whole.
func (b *bench) setPartial(partial bool, names ...string) {
	b.t.Helper()
	for _, name := range names {
		b.entry(name, func(v *api.Entry) { v.Partial = partial })
	}
}

func (b *bench) setSlot(s api.Slot) {
	b.t.Helper()
	b.within("SetSlot", func(x *txn.Txn) api.Errno { return b.p.SetSlot(x, s) })
}

// ref gives pool blocks a reference more each.
func (b *bench) ref(blocks ...int) {
	b.t.Helper()
	for _, block := range blocks {
		b.within("Ref", func(x *txn.Txn) api.Errno { return b.p.Space().Ref(x, block) })
	}
}

// unref takes a reference from each of the pool blocks.
func (b *bench) unref(blocks ...int) {
	b.t.Helper()
	for _, block := range blocks {
		b.within("Unref", func(x *txn.Txn) api.Errno {
			_, e := b.p.Space().Unref(x, block)
			return e
		})
	}
}

// alloc takes the lowest free pool block.
func (b *bench) alloc() int {
	b.t.Helper()
	block := 0
	b.within("Alloc", func(x *txn.Txn) (e api.Errno) {
		block, e = b.p.Space().Alloc(x)
		return e
	})
	return block
}

// path gives the pool blocks on the way to a logical block of a volume: three nodes and the data block.
func (b *bench) path(name string, l int) []int {
	b.t.Helper()
	v := b.get(name)
	x := b.begin()
	defer x.Abort()
	data, e := b.p.Map().Find(x, v.Root, l)
	if e != api.OK || data == 0 {
		b.t.Fatalf("Find(t, %d, %d) = %d, %d", v.Root, l, data, e)
	}
	tiles, e := b.p.Map().Walk(x, v.Root)
	if e != api.OK {
		b.t.Fatalf("Walk(t, %d) = %d", v.Root, e)
	}
	way := make([]int, 4)
	for _, tile := range tiles {
		way[tile.Level] = tile.Block
		if tile.Level == 3 && tile.Block == data {
			return way
		}
	}
	b.t.Fatalf("the walk of %q does not come to %d", name, data)
	return nil
}

// do does operations that are not refused.
func (b *bench) do(ops ...api.Op) {
	b.t.Helper()
	for _, o := range ops {
		if e := vol.Do(b.p, o); e != api.OK {
			b.t.Fatalf("Do(kind %d, %q, %q, %d, %d) = %d", o.Kind, o.Name, o.Other, o.From, o.To, e)
		}
	}
}

// check holds that Check tells these problems, as the chapter's words say too, each time that it is asked, and changes nothing.
func (b *bench) check(what string, want ...api.Problem) {
	b.t.Helper()
	before := b.state()
	for range 2 {
		got, e := check.Check(b.p)
		b.checkClosed("Check")
		if !slices.Equal(got, want) || e != api.OK {
			b.t.Errorf("%s: Check = %v, %d; want %v", what, got, e, want)
		}
	}
	if b.state() != before {
		b.t.Errorf("%s: Check has changed something", what)
	}
	if by, e := b.wanted(); !slices.Equal(by, want) || e != api.OK {
		b.t.Errorf("%s: by what the layers below tell the problems are %v, %d; want %v", what, by, e, want)
	}
}

// checkFits holds that nothing is found.
func (b *bench) checkFits(what string) {
	b.t.Helper()
	b.check(what)
}

// checkByModel holds that Check tells what the chapter's words say of what the layers below tell. It gives the problems.
func (b *bench) checkByModel(what string) []api.Problem {
	b.t.Helper()
	want, wantE := b.wanted()
	got, e := check.Check(b.p)
	b.checkClosed("Check")
	if !slices.Equal(got, want) || e != wantE {
		b.t.Errorf("%s: Check = %v, %d; want %v, %d", what, got, e, want, wantE)
	}
	return got
}

func TestP14ExamplesInTheirOrder(t *testing.T) {
	b := made(t, 100, 0)
	b.checkFits("a fresh pool")
	b.do(create("a", 10), write("a", 5, full(1)))
	way := b.path("a", 5)
	data := way[3]
	b.checkFits("nothing")
	b.ref(data)
	b.check("a Ref", counted(data, 2, 1))
	b.unref(data, data)
	b.check("two Unrefs", counted(data, 0, 1))
	if got := b.alloc(); got != data {
		t.Errorf("Alloc gives %d; want %d", got, data)
	}
	b.checkFits("an Alloc")
	b.setSize("a", 5)
	b.check("Size 5", api.Problem{Kind: api.ProblemSize, Where: 1, Found: 6, Wanted: 5})
	b.entry("a", func(v *api.Entry) { v.Size, v.Origin = 10, 1 })
	b.check("Size 10 and Origin 1", api.Problem{Kind: api.ProblemOrigin, Where: 1, Found: 1})
	b.entry("a", func(v *api.Entry) { v.Root, v.Origin = 0, 0 })
	slices.Sort(way)
	b.check("Root 0 and Origin 0", counted(way[0], 1, 0), counted(way[1], 1, 0), counted(way[2], 1, 0), counted(way[3], 1, 0))
	refuseImage(t, nil, api.ErrCheckImage)
	refuseImage(t, make([]byte, 400*512), api.ErrPoolNone)
}

// refuseImage holds that CheckImage answers an error, and nothing beside it.
func refuseImage(t *testing.T, image []byte, want api.Errno) {
	t.Helper()
	before := bytes.Clone(image)
	if got, e := check.CheckImage(image); len(got) != 0 || e != want {
		t.Errorf("CheckImage(%d bytes) = %v, %d; want nothing, %d", len(image), got, e, want)
	}
	if !bytes.Equal(image, before) {
		t.Errorf("CheckImage has changed the image")
	}
}

// used gives a pool with volumes that share: a (1), s (2) and c (3) of it, e (4, empty), o (5, of its own), l (6, of all sizes the
// greatest), t (7) of s.
func used(t *testing.T) *bench {
	t.Helper()
	b := made(t, 300, 36)
	b.do(create("a", 5000), write("a", 0, full(1)), write("a", 1, full(2)), write("a", 64, full(3)), write("a", 4999, full(4)))
	b.do(snap("s", "a"), write("a", 1, full(5)), clone("c", "a"), write("c", 70, full(6)), discard("c", 0, 1))
	b.do(create("e", 50), create("o", 70), write("o", 1, full(2)), write("o", 64, full(4)), fill("o", 65, 70))
	b.do(create("l", 262144), write("l", 262143, full(9)), write("l", 0, full(1)), snap("t", "s"))
	return b
}

// Operations of every kind, one behind the other.
func TestP14_3BehindEachOperation(t *testing.T) {
	b := made(t, 150, 36)
	for i, o := range []api.Op{
		create("a", 9000), write("a", 0, full(1)), write("a", 64, full(2)), write("a", 4096, full(3)), write("a", 64, full(4)),
		snap("s", "a"), clone("c", "s"), snap("t", "s"), write("c", 0, full(1)), write("c", 65, full(1)),
		fill("a", 60, 70), fill("t", 0, 32), discard("a", 64, 65), discard("c", 0, 9000), discard("t", 5, 40),
		resize("s", 64), resize("s", 1), resize("s", 262144), write("s", 262143, full(0)), rename("c", "~c"),
		restore("a", "s"), restore("s", "t"), restore("~c", "~c"), extend(170), create("e", 1), restore("e", "a"),
		remove("e"), remove("~c"), discard("s", 0, 9000), remove("t"), remove("s"), extend(186), remove("a"),
	} {
		b.do(o)
		b.checkFits(fmt.Sprintf("operation %d, of kind %d", i, o.Kind))
		if i%8 == 0 {
			b.again()
			b.checkFits("opened anew")
		}
	}
}

// All is shared by three volumes; then some of it, then nothing.
func TestP14_3VolumesThatShareAllSomeAndNothing(t *testing.T) {
	b := made(t, 200, 0)
	b.do(create("a", 9000), write("a", 0, full(1)), write("a", 64, full(2)), write("a", 4096, full(3)), snap("s", "a"), clone("c", "s"))
	b.checkFits("all is shared")
	b.do(write("c", 0, full(1)))
	b.checkFits("a way of one's own")
	b.do(write("c", 65, full(1)), write("a", 0, full(1)), write("a", 4096, full(1)))
	b.checkFits("some is shared")
	for _, name := range []string{"a", "c", "s"} {
		b.do(write(name, 0, full(1)), write(name, 64, full(1)), write(name, 65, full(1)), write(name, 4096, full(1)))
	}
	b.checkFits("nothing is shared")
}

func TestP14_3SnapshotsOfSnapshots(t *testing.T) {
	b := made(t, 300, 0)
	b.do(create("a", 100), write("a", 0, full(0)))
	names := []string{"a", "b", "c", "d", "e", "f"}
	for i, name := range names[1:] {
		b.do(snap(name, names[i]), write(name, i+1, full(byte(i+1))))
		b.checkFits("a snapshot of " + names[i])
	}
	b.do(restore("a", "f"), write("c", 70, full(1)), remove("f"), resize("b", 1))
	b.checkFits("behind changes of all")
}

// As many volumes as there may be, and as many references as one thing may have of them.
func TestP14_3AsManyVolumesAsThereMayBe(t *testing.T) {
	b := made(t, 300, 0)
	b.do(create("a", 100), write("a", 3, full(1)))
	for i := range 63 {
		b.do(snap(fmt.Sprintf("s%02d", i*37%64), "a"))
		if i%3 == 0 {
			b.do(write("a", i, full(byte(i))))
		}
	}
	b.checkFits("64 volumes")
	b.unref(b.path("s00", 3)[3])
	if got := b.checkByModel("a count too few"); len(got) != 1 {
		t.Errorf("Check = %v; want one problem", got)
	}
}

func TestP14_3PartialVolumes(t *testing.T) {
	b := used(t)
	for _, names := range [][]string{{"a"}, {"s"}, {"c", "e"}, {"a", "c", "e", "l", "o", "s", "t"}} {
		b.setPartial(true, names...)
		b.checkFits("partial volumes")
		b.setPartial(false, names...)
	}
	b.setPartial(true, "o", "t")
	b.do(remove("o"), remove("t"))
	b.checkFits("partial volumes that are gone")
}

// A volume of the greatest size, with logical blocks far apart, up to the last.
func TestP14_3LogicalBlocksFarApart(t *testing.T) {
	b := made(t, 300, 0)
	b.do(create("a", 262144))
	for i := range 64 {
		b.do(write("a", i*4096+i*65%4096, full(byte(i))))
	}
	b.do(write("a", 262143, full(1)))
	b.checkFits("blocks far apart")
	b.do(snap("s", "a"), write("a", 0, full(1)), write("a", 262000, full(2)), discard("s", 1, 262144))
	b.checkFits("blocks far apart, some of them shared")
}

// A program that is running is no hindrance, whatever is in the slot.
func TestP14_3WhileAProgramIsRunning(t *testing.T) {
	for _, s := range []api.Slot{
		{State: api.SlotRunning, Ops: []api.Op{remove("s")}},
		{State: api.SlotRunning, Counter: 1, Ops: []api.Op{remove("s"), remove("c")}},
		{State: api.SlotRunning, Ops: slices.Repeat([]api.Op{rename("0123456789012345678901234567890", "0123456789012345678901234567890")}, 120)},
		{State: api.SlotDone, Counter: 1, Ops: []api.Op{remove("s")}},
		{State: api.SlotAborted, Code: 64, Ops: []api.Op{remove("s")}},
		{},
	} {
		b := used(t)
		b.setSlot(s)
		b.checkFits("with a program")
		b.check("with a program", counted(b.alloc(), 1, 0))
	}
}

// The calls of layers 9 to 13 that only tell, and those that are refused, leave nothing behind.
func TestP14_3BehindOtherCalls(t *testing.T) {
	b := used(t)
	vol.View(b.p)
	vol.Read(b.p, "a", 1)
	vol.Mapped(b.p, "a")
	delta.Shared(b.p, "a", "s")
	delta.Changed(b.p, "a", "c")
	usage.Of(b.p, "a")
	usage.All(b.p)
	usage.Total(b.p)
	vol.Do(b.p, create("a", 1))
	vol.Do(b.p, remove("a"))
	vol.Do(b.p, write("o", 70, full(1)))
	b.do(create("full", 1000))
	for l := 0; vol.Do(b.p, fill("full", l, l+32)) == api.OK; l += 32 {
	}
	b.checkFits("other calls, in a pool that is nearly full")
	b.within("Extend", func(x *txn.Txn) api.Errno { return b.p.Extend(x, 336) })
	b.p.Sync()
	b.checkFits("Extend and Sync")
	// What was begun and given up is nobody's.
	x := b.begin()
	b.p.Space().Alloc(x)
	b.p.Map().Assign(x, 0, 9)
	x.Abort()
	b.checkFits("a transaction that was given up")
}

// All workers have ended when the call answers.
func TestP14_1NoWorkerIsLeft(t *testing.T) {
	b := used(t)
	before := runtime.NumGoroutine()
	for range 50 {
		check.Check(b.p)
	}
	b.setRoot("a", 301)
	check.Check(b.p)
	check.Check(nil)
	// Who has said that he is done may still be on his way out.
	for range 1000 {
		if runtime.NumGoroutine() <= before {
			return
		}
		time.Sleep(time.Millisecond)
	}
	t.Errorf("behind the calls there are %d goroutines; there were %d", runtime.NumGoroutine(), before)
}
