package act_test

import (
	"bytes"
	"fmt"
	"slices"
	"testing"

	"cistern/act"
	"cistern/api"
	"cistern/disk"
	"cistern/pool"
	"cistern/txn"
)

// full gives a block that is one byte all through.
func full(name byte) []byte { return bytes.Repeat([]byte{name}, 512) }

// noise gives bytes that look like chance and are the same in each run.
func noise(size int, seed uint32) []byte {
	out := make([]byte, size)
	for i := range out {
		seed = seed*1664525 + 1013904223
		out[i] = byte(seed >> 24)
	}
	return out
}

func create(name string, to int) api.Op { return api.Op{Kind: api.OpCreate, Name: name, To: to} }

func snap(name string, other string) api.Op {
	return api.Op{Kind: api.OpSnap, Name: name, Other: other}
}

func clone(name string, other string) api.Op {
	return api.Op{Kind: api.OpClone, Name: name, Other: other}
}

func resize(name string, to int) api.Op { return api.Op{Kind: api.OpResize, Name: name, To: to} }

func rename(name string, other string) api.Op {
	return api.Op{Kind: api.OpRename, Name: name, Other: other}
}

func remove(name string) api.Op { return api.Op{Kind: api.OpDelete, Name: name} }

func restore(name string, other string) api.Op {
	return api.Op{Kind: api.OpRestore, Name: name, Other: other}
}

func write(name string, from int, data []byte) api.Op {
	return api.Op{Kind: api.OpWrite, Name: name, From: from, Data: data}
}

func discard(name string, from int, to int) api.Op {
	return api.Op{Kind: api.OpDiscard, Name: name, From: from, To: to}
}

func fill(name string, from int, to int) api.Op {
	return api.Op{Kind: api.OpFill, Name: name, From: from, To: to}
}

func extend(to int) api.Op { return api.Op{Kind: api.OpExtend, To: to} }

// told tells an operation without its data.
func told(o api.Op) string {
	return fmt.Sprintf("kind %d, %q, %q, %d, %d, %d bytes", o.Kind, o.Name, o.Other, o.From, o.To, len(o.Data))
}

// bench is a pool, its disk, and the open transaction.
type bench struct {
	t *testing.T
	d *disk.Disk
	p *pool.Pool
	x *txn.Txn
}

// made gives a new pool of a capacity, on a disk that holds so many more pool blocks.
func made(t *testing.T, capacity int, more int) *bench {
	t.Helper()
	blocks, e := pool.Needed(capacity + more)
	if e != api.OK {
		t.Fatalf("Needed(%d) = %d", capacity+more, e)
	}
	d, e := disk.New(blocks)
	if e != api.OK {
		t.Fatalf("disk.New(%d) = %d", blocks, e)
	}
	if e := pool.Format(d, capacity); e != api.OK {
		t.Fatalf("Format(d, %d) = %d", capacity, e)
	}
	return found(t, d)
}

// found gives the pool that is found on a disk, with a transaction.
func found(t *testing.T, d *disk.Disk) *bench {
	t.Helper()
	p, e := pool.Open(d)
	if e != api.OK {
		t.Fatalf("Open(d) = %d", e)
	}
	b := &bench{t: t, d: d, p: p}
	b.begin()
	return b
}

func (b *bench) begin() {
	b.t.Helper()
	x, e := b.p.Begin()
	if e != api.OK {
		b.t.Fatalf("Begin() = %d", e)
	}
	b.x = x
}

// commit commits, and begins the next transaction.
func (b *bench) commit() {
	b.t.Helper()
	if e := b.x.Commit(); e != api.OK {
		b.t.Fatalf("Commit() = %d", e)
	}
	b.begin()
}

// abort gives the transaction up, and begins the next one.
func (b *bench) abort() {
	b.t.Helper()
	if e := b.x.Abort(); e != api.OK {
		b.t.Fatalf("Abort() = %d", e)
	}
	b.begin()
}

// again commits, and opens the pool anew.
func (b *bench) again() {
	b.t.Helper()
	b.commit()
	*b = *found(b.t, b.d)
}

func (b *bench) mark() int {
	b.t.Helper()
	m, e := b.x.Mark()
	if e != api.OK {
		b.t.Fatalf("Mark() = %d", e)
	}
	return m
}

func (b *bench) back(m int) {
	b.t.Helper()
	if e := b.x.Back(m); e != api.OK {
		b.t.Fatalf("Back(%d) = %d", m, e)
	}
}

// darken turns the power off.
func (b *bench) darken() {
	b.t.Helper()
	b.d.Fuse(0)
	if e := b.d.Flush(); e != api.ErrDiskOff {
		b.t.Fatalf("Flush() with a fuse of 0 = %d", e)
	}
}

func (b *bench) pending() int {
	b.t.Helper()
	pending, e := b.d.Pending()
	if e != api.OK {
		b.t.Fatalf("Pending() = %d", e)
	}
	return len(pending)
}

// image gives all that the disk is seen to hold.
func (b *bench) image() []byte {
	b.t.Helper()
	keep := make([]int, b.pending())
	for i := range keep {
		keep[i] = i
	}
	image, e := b.d.Crash(keep)
	if e != api.OK {
		b.t.Fatalf("Crash = %d", e)
	}
	return image
}

// checkUnwritten holds that the transaction has no writes, by its Commit; it begins the next one.
func (b *bench) checkUnwritten(what string) {
	b.t.Helper()
	before := b.pending()
	b.commit()
	if after := b.pending(); after != before {
		b.t.Errorf("%s has written: %d writes are pending, where %d were", what, after, before)
	}
}

func (b *bench) view() api.View {
	b.t.Helper()
	v, e := b.p.View(b.x)
	if e != api.OK {
		b.t.Fatalf("View(t) = %d", e)
	}
	return v
}

func (b *bench) free() int {
	b.t.Helper()
	n, e := b.p.Space().Free(b.x)
	if e != api.OK {
		b.t.Fatalf("Free(t) = %d", e)
	}
	return n
}

// counts gives the references of all pool blocks, from 1 on.
func (b *bench) counts() []int {
	b.t.Helper()
	size, e := b.p.Space().Size(b.x)
	if e != api.OK {
		b.t.Fatalf("Size(t) = %d", e)
	}
	counts := make([]int, size+1)
	for block := 1; block <= size; block++ {
		if counts[block], e = b.p.Space().Count(b.x, block); e != api.OK {
			b.t.Fatalf("Count(t, %d) = %d", block, e)
		}
	}
	return counts
}

func (b *bench) entry(name string) api.Entry {
	b.t.Helper()
	v, e := b.p.Catalog().Find(b.x, name)
	if e != api.OK {
		b.t.Fatalf("Find(t, %q) = %d", name, e)
	}
	return v
}

func (b *bench) lay(v api.Entry) {
	b.t.Helper()
	if e := b.p.Catalog().Put(b.x, v); e != api.OK {
		b.t.Fatalf("Put(t, %v) = %d", v, e)
	}
}

// setPartial says of a volume that it is partial.
func (b *bench) setPartial(name string) {
	b.t.Helper()
	v := b.entry(name)
	v.Partial = true
	b.lay(v)
}

// take takes pool blocks, up to where so many are free.
func (b *bench) take(left int) []int {
	b.t.Helper()
	var taken []int
	for b.free() > left {
		block, e := b.p.Space().Alloc(b.x)
		if e != api.OK {
			b.t.Fatalf("Alloc(t) = %d", e)
		}
		taken = append(taken, block)
	}
	return taken
}

// do does operations that are not refused.
func (b *bench) do(ops ...api.Op) {
	b.t.Helper()
	for _, o := range ops {
		b.check(o, api.OK)
	}
}

func (b *bench) check(o api.Op, want api.Errno) {
	b.t.Helper()
	if e := act.Do(b.p, b.x, o); e != want {
		b.t.Errorf("Do(%s) = %d; want %d", told(o), e, want)
	}
}

func (b *bench) checkCost(o api.Op, want int) {
	b.t.Helper()
	if n, e := act.Cost(b.p, b.x, o); n != want || e != api.OK {
		b.t.Errorf("Cost(%s) = %d, %d; want %d", told(o), n, e, want)
	}
}

func (b *bench) checkNoCost(o api.Op, want api.Errno) {
	b.t.Helper()
	if n, e := act.Cost(b.p, b.x, o); n != 0 || e != want {
		b.t.Errorf("Cost(%s) = %d, %d; want 0, %d", told(o), n, e, want)
	}
}

// checkRefused holds that Do and Cost are refused.
func (b *bench) checkRefused(o api.Op, want api.Errno) {
	b.t.Helper()
	b.check(o, want)
	b.checkNoCost(o, want)
}

func (b *bench) read(name string, l int) []byte {
	b.t.Helper()
	data, e := act.Read(b.p, b.x, name, l)
	if e != api.OK || len(data) != 512 {
		b.t.Fatalf("Read(%q, %d) = %d bytes, %d", name, l, len(data), e)
	}
	return data
}

func (b *bench) checkRead(name string, l int, want byte) {
	b.t.Helper()
	if !bytes.Equal(b.read(name, l), full(want)) {
		b.t.Errorf("Read(%q, %d) gives others than %d", name, l, want)
	}
}

func (b *bench) checkNoRead(name string, l int, want api.Errno) {
	b.t.Helper()
	if data, e := act.Read(b.p, b.x, name, l); len(data) != 0 || e != want {
		b.t.Errorf("Read(%q, %d) = %d bytes, %d; want none, %d", name, l, len(data), e, want)
	}
}

func (b *bench) checkFree(want int) {
	b.t.Helper()
	if n := b.free(); n != want {
		b.t.Errorf("%d pool blocks are free; want %d", n, want)
	}
}

// checkVolume holds a volume against what a view shall show of it.
func (b *bench) checkVolume(want api.Volume) {
	b.t.Helper()
	for _, v := range b.view().Volumes {
		if v.Name == want.Name {
			if fmt.Sprint(v) != fmt.Sprint(want) {
				b.t.Errorf("the view shows %v; want %v", v, want)
			}
			return
		}
	}
	b.t.Errorf("the view shows no %q", want.Name)
}

func (b *bench) checkNames(want ...string) {
	b.t.Helper()
	var names []string
	for _, v := range b.view().Volumes {
		names = append(names, v.Name)
	}
	if !slices.Equal(names, want) {
		b.t.Errorf("the view shows the volumes %q; want %q", names, want)
	}
}

func TestP10ExamplesInTheirOrder(t *testing.T) {
	b := made(t, 100, 0)
	b.do(create("a", 10))
	b.checkRead("a", 9, 0)
	b.checkNoRead("a", 10, api.ErrActRange)

	b.checkCost(write("a", 5, full(1)), 4)
	b.do(write("a", 5, full(1)))
	b.checkCost(write("a", 5, full(1)), 0)

	b.do(snap("s", "a"))
	b.checkCost(write("a", 5, full(1)), 4)
	b.checkCost(write("a", 6, full(1)), 4)
	b.checkCost(discard("a", 0, 10), 0)
	b.checkCost(resize("a", 3), 0)

	b.do(write("a", 6, full('X')))
	b.checkRead("s", 6, 0)
	b.checkCost(discard("a", 5, 6), 0)

	b.do(create("forty", 40))
	b.checkRefused(fill("forty", 0, 33), api.ErrActRange)
	b.do(fill("a", 0, 10))
	b.checkCost(fill("a", 0, 10), 0)

	b.checkRefused(remove("a"), api.ErrActChildren)

	b.checkRefused(create("A", 0), api.ErrActName)
	b.checkRefused(create("a", 0), api.ErrActTaken)
	b.checkRefused(create("b", 0), api.ErrActSize)
	b.checkRefused(api.Op{Kind: api.OpCreate, Name: "b", To: 5, From: 1}, api.ErrActForm)

	b.checkRefused(rename("a", "a"), api.ErrActTaken)
	b.do(restore("a", "a"), resize("a", 10), discard("a", 3, 3))

	b.checkRefused(api.Op{Kind: 12}, api.ErrActKind)
	b.checkRefused(api.Op{Kind: 0, Name: "A"}, api.ErrActKind)

	b.checkRefused(extend(100), api.ErrActSize)
}

func TestP10_1Create(t *testing.T) {
	b := made(t, 100, 0)
	b.do(create("a", 1), create("~", 262144), create("b", 40))
	b.checkVolume(api.Volume{Name: "a", ID: 1, Size: 1})
	b.checkVolume(api.Volume{Name: "~", ID: 2, Size: 262144})
	b.checkVolume(api.Volume{Name: "b", ID: 3, Size: 40})
	b.checkRead("~", 262143, 0)
	b.checkNoRead("~", 262144, api.ErrActRange)
	b.checkFree(100)
	b.again()
	b.checkNames("a", "b", "~")
	if n := b.view().Next; n != 4 {
		t.Errorf("the next ID is %d; want 4", n)
	}
	// A number is never used again.
	b.do(remove("b"), create("b", 7))
	b.checkVolume(api.Volume{Name: "b", ID: 4, Size: 7})
}

func TestP10_1SnapAndClone(t *testing.T) {
	b := made(t, 100, 0)
	mapped := []api.Range{{From: 2, To: 4}, {From: 70, To: 71}}
	b.do(create("a", 80), write("a", 2, full(2)), write("a", 3, full(3)), write("a", 70, full(70)))
	b.commit()
	free := b.free()
	b.do(snap("s", "a"), clone("c", "a"), snap("s2", "s"), clone("c2", "s"), clone("c3", "c"))
	b.checkFree(free)
	for _, v := range []api.Volume{
		{Name: "a", ID: 1, Size: 80},
		{Name: "s", ID: 2, Size: 80, Origin: 1, Kind: api.KindSnap},
		{Name: "c", ID: 3, Size: 80, Origin: 1, Kind: api.KindVolume},
		{Name: "s2", ID: 4, Size: 80, Origin: 2, Kind: api.KindSnap},
		{Name: "c2", ID: 5, Size: 80, Origin: 2, Kind: api.KindVolume},
		{Name: "c3", ID: 6, Size: 80, Origin: 3, Kind: api.KindVolume},
	} {
		v.Mapped = mapped
		b.checkVolume(v)
		b.checkRead(v.Name, 2, 2)
		b.checkRead(v.Name, 70, 70)
		b.checkRead(v.Name, 4, 0)
	}
	// All kinds can be written, and each is changed alone.
	for i, name := range []string{"a", "s", "c", "s2", "c2", "c3"} {
		b.do(write(name, 2, full(byte(100+i))))
	}
	b.again()
	for i, name := range []string{"a", "s", "c", "s2", "c2", "c3"} {
		b.checkRead(name, 2, byte(100+i))
		b.checkRead(name, 3, 3)
	}
	// Of an empty one too.
	b.do(create("e", 5), snap("f", "e"), write("f", 4, full(9)))
	b.checkVolume(api.Volume{Name: "e", ID: 7, Size: 5})
	b.checkVolume(api.Volume{Name: "f", ID: 8, Size: 5, Origin: 7, Kind: api.KindSnap, Mapped: []api.Range{{From: 4, To: 5}}})
}

func TestP10_1Resize(t *testing.T) {
	b := made(t, 100, 0)
	b.do(create("a", 5000), write("a", 0, full(1)), write("a", 63, full(2)), write("a", 64, full(3)), write("a", 4999, full(4)))
	b.commit()
	for _, c := range []struct {
		to     int
		mapped []api.Range
		free   int
	}{
		{262144, []api.Range{{From: 0, To: 1}, {From: 63, To: 65}, {From: 4999, To: 5000}}, 90},
		{5000, []api.Range{{From: 0, To: 1}, {From: 63, To: 65}, {From: 4999, To: 5000}}, 90},
		{4999, []api.Range{{From: 0, To: 1}, {From: 63, To: 65}}, 93},
		{65, []api.Range{{From: 0, To: 1}, {From: 63, To: 65}}, 93},
		{64, []api.Range{{From: 0, To: 1}, {From: 63, To: 64}}, 95},
		{63, []api.Range{{From: 0, To: 1}}, 96},
		{1, []api.Range{{From: 0, To: 1}}, 96},
		{5000, []api.Range{{From: 0, To: 1}}, 96},
	} {
		b.do(resize("a", c.to))
		b.checkVolume(api.Volume{Name: "a", ID: 1, Size: c.to, Mapped: c.mapped})
		b.commit()
		b.checkFree(c.free)
		b.checkNoRead("a", c.to, api.ErrActRange)
	}
	// What was cut off does not come again.
	b.checkRead("a", 0, 1)
	b.checkRead("a", 63, 0)
	b.checkRead("a", 4999, 0)
}

func TestP10_1Rename(t *testing.T) {
	b := made(t, 100, 0)
	b.do(create("a", 8), write("a", 7, full(7)), snap("s", "a"))
	b.do(rename("a", "b"))
	b.checkNames("b", "s")
	b.checkVolume(api.Volume{Name: "b", ID: 1, Size: 8, Mapped: []api.Range{{From: 7, To: 8}}})
	b.checkRead("b", 7, 7)
	b.checkNoRead("a", 7, api.ErrActUnknown)
	b.checkRefused(rename("a", "c"), api.ErrActUnknown)
	b.checkRefused(rename("b", "s"), api.ErrActTaken)
	b.checkRefused(rename("s", "b"), api.ErrActTaken)
	b.checkRefused(rename("s", "s"), api.ErrActTaken)
	// The old name is free again, and its origin is told by number.
	b.do(create("a", 3), rename("s", "~s"), rename("b", "abcdefghijklmnopqrstuvwxyz01234"))
	b.checkVolume(api.Volume{Name: "~s", ID: 2, Size: 8, Origin: 1, Kind: api.KindSnap, Mapped: []api.Range{{From: 7, To: 8}}})
	b.checkRefused(remove("abcdefghijklmnopqrstuvwxyz01234"), api.ErrActChildren)
	b.again()
	b.checkNames("a", "abcdefghijklmnopqrstuvwxyz01234", "~s")
}

func TestP10_1Delete(t *testing.T) {
	b := made(t, 100, 0)
	b.do(create("a", 100), fill("a", 0, 32), snap("s", "a"), clone("c", "s"))
	b.commit()
	b.checkRefused(remove("a"), api.ErrActChildren)
	b.checkRefused(remove("s"), api.ErrActChildren)
	b.do(remove("c"))
	b.checkRefused(remove("c"), api.ErrActUnknown)
	b.checkRefused(remove("a"), api.ErrActChildren)
	b.do(remove("s"))
	b.commit()
	b.checkFree(100 - 35)
	b.do(remove("a"))
	b.checkFree(100 - 35)
	b.commit()
	b.checkFree(100)
	b.checkNames()
	b.do(create("a", 100))
	b.checkRead("a", 0, 0)
	b.checkVolume(api.Volume{Name: "a", ID: 4, Size: 100})
}

// A snapshot of what is deleted behind it stays, with the number of what is not there any more as its origin.
func TestP10_1DeleteWhatHasNoChildrenAnyMore(t *testing.T) {
	b := made(t, 100, 0)
	b.do(create("a", 10), write("a", 1, full(1)), snap("s", "a"))
	b.do(create("b", 10), restore("b", "s"), remove("s"), remove("a"))
	b.checkRead("b", 1, 1)
	b.checkVolume(api.Volume{Name: "b", ID: 3, Size: 10, Mapped: []api.Range{{From: 1, To: 2}}})
	b.commit()
	b.checkFree(96)
}

func TestP10_1Restore(t *testing.T) {
	b := made(t, 100, 0)
	b.do(create("a", 100), write("a", 5, full(5)), write("a", 99, full(99)), snap("s", "a"))
	b.do(write("a", 5, full(6)), resize("a", 50), write("a", 7, full(7)))
	b.commit()
	b.do(restore("a", "s"))
	b.checkVolume(api.Volume{Name: "a", ID: 1, Size: 100, Mapped: []api.Range{{From: 5, To: 6}, {From: 99, To: 100}}})
	b.checkVolume(api.Volume{Name: "s", ID: 2, Size: 100, Origin: 1, Kind: api.KindSnap, Mapped: []api.Range{{From: 5, To: 6}, {From: 99, To: 100}}})
	b.checkRead("a", 5, 5)
	b.checkRead("a", 7, 0)
	b.commit()
	b.checkFree(100 - 6)
	// Of any volume, and both can be written then.
	b.do(create("b", 3), write("b", 0, full(8)), restore("s", "b"))
	b.checkVolume(api.Volume{Name: "s", ID: 2, Size: 3, Origin: 1, Kind: api.KindSnap, Mapped: []api.Range{{From: 0, To: 1}}})
	b.do(write("s", 0, full(9)))
	b.checkRead("b", 0, 8)
	b.checkRead("s", 0, 9)
	// Of an empty one.
	b.do(create("e", 9), restore("b", "e"))
	b.checkVolume(api.Volume{Name: "b", ID: 3, Size: 9})
}

// Of a name to itself nothing is done, and of one that has the same map already next to nothing.
func TestP10_1RestoreToItself(t *testing.T) {
	b := made(t, 100, 0)
	b.do(create("a", 100), write("a", 5, full(5)), snap("s", "a"), create("e", 4))
	b.commit()
	before := b.view()
	for _, name := range []string{"a", "s", "e"} {
		b.do(restore(name, name))
		b.checkCost(restore(name, name), 0)
	}
	b.do(restore("a", "s"), restore("s", "a"))
	b.checkUnwritten("Restore of a name to itself")
	if fmt.Sprint(b.view()) != fmt.Sprint(before) {
		t.Errorf("Restore of a name to itself has changed the view")
	}
	b.do(write("a", 6, full(6)))
	before = b.view()
	b.do(restore("a", "a"))
	if fmt.Sprint(b.view()) != fmt.Sprint(before) {
		t.Errorf("Restore of a name to itself has changed the view")
	}
	b.checkRead("a", 6, 6)
}

func TestP10_1Write(t *testing.T) {
	b := made(t, 100, 0)
	b.do(create("a", 262144))
	for i, l := range []int{0, 63, 64, 4095, 4096, 262143} {
		b.do(write("a", l, full(byte(i+1))))
	}
	b.do(write("a", 63, full(200)), write("a", 64, full(0)))
	b.again()
	for l, want := range map[int]byte{0: 1, 1: 0, 62: 0, 63: 200, 64: 0, 65: 0, 4095: 4, 4096: 5, 262142: 0, 262143: 6} {
		b.checkRead("a", l, want)
	}
	b.checkVolume(api.Volume{Name: "a", ID: 1, Size: 262144, Mapped: []api.Range{
		{From: 0, To: 1}, {From: 63, To: 65}, {From: 4095, To: 4097}, {From: 262143, To: 262144},
	}})
}

func TestP10_1Discard(t *testing.T) {
	b := made(t, 100, 0)
	b.do(create("a", 100), fill("a", 10, 20), write("a", 15, full(15)), write("a", 19, full(19)))
	b.commit()
	for _, c := range []struct{ from, to int }{{0, 10}, {20, 100}, {15, 15}, {0, 0}, {100, 100}} {
		b.do(discard("a", c.from, c.to))
		b.checkUnwritten("a Discard of what is not mapped")
	}
	b.do(discard("a", 15, 18))
	b.checkVolume(api.Volume{Name: "a", ID: 1, Size: 100, Mapped: []api.Range{{From: 10, To: 15}, {From: 18, To: 20}}})
	b.checkRead("a", 15, 0)
	b.checkRead("a", 19, 19)
	b.do(discard("a", 0, 100))
	b.checkVolume(api.Volume{Name: "a", ID: 1, Size: 100})
	b.commit()
	b.checkFree(100)
}

func TestP10_1Fill(t *testing.T) {
	b := made(t, 200, 0)
	b.do(create("a", 5000), write("a", 5, full(5)))
	// What was written and let go in the same transaction is zeros where it is taken again.
	b.do(write("a", 40, full(40)), write("a", 41, full(41)), discard("a", 40, 42))
	b.do(fill("a", 0, 32))
	b.checkVolume(api.Volume{Name: "a", ID: 1, Size: 5000, Mapped: []api.Range{{From: 0, To: 32}}})
	for l := range 33 {
		want := byte(0)
		if l == 5 {
			want = 5
		}
		b.checkRead("a", l, want)
	}
	b.commit()
	b.checkFree(200 - 35)
	// What is mapped stays as it is, shared too.
	b.do(snap("s", "a"))
	b.commit()
	b.do(fill("a", 4, 30))
	b.checkUnwritten("a Fill of what is mapped")
	b.checkCost(fill("a", 31, 33), 4)
	b.do(fill("a", 31, 33))
	b.checkFree(200 - 35 - 4)
	// Over the seams of nodes.
	b.commit()
	b.checkCost(fill("a", 4080, 4112), 32+3)
	b.do(fill("a", 4080, 4112))
	b.commit()
	b.do(create("e", 4112))
	b.checkCost(fill("e", 4080, 4112), 32+5)
	b.do(fill("a", 4968, 5000))
	b.again()
	b.checkVolume(api.Volume{Name: "a", ID: 1, Size: 5000, Mapped: []api.Range{{From: 0, To: 33}, {From: 4080, To: 4112}, {From: 4968, To: 5000}}})
	b.checkRead("s", 5, 5)
	b.checkRead("a", 5, 5)
}

// What lies in pool blocks that were let go by others does not show in a Fill.
func TestP10_1FillWhereOthersLay(t *testing.T) {
	b := made(t, 20, 0)
	b.do(create("a", 16))
	for l := range 16 {
		b.do(write("a", l, full(byte(200+l))))
	}
	b.commit()
	b.do(remove("a"), create("b", 16))
	b.commit()
	b.do(fill("b", 0, 16))
	b.again()
	for l := range 16 {
		b.checkRead("b", l, 0)
	}
}

func TestP10_1Extend(t *testing.T) {
	b := made(t, 100, 36)
	for _, to := range []int{-1, 0, 1, 99, 100, 262145} {
		b.checkRefused(extend(to), api.ErrActSize)
	}
	for _, to := range []int{137, 262144} {
		b.checkRefused(extend(to), api.ErrPoolSize)
	}
	b.checkUnwritten("a refused Extend")
	b.do(extend(101))
	b.checkFree(101)
	b.checkRefused(extend(100), api.ErrActSize)
	b.checkRefused(extend(101), api.ErrActSize)
	b.do(extend(136))
	b.checkRefused(extend(136), api.ErrActSize)
	b.checkRefused(extend(137), api.ErrPoolSize)
	b.again()
	if v := b.view(); v.Capacity != 136 || v.Free != 136 {
		t.Errorf("behind Extend the capacity is %d, and %d are free", v.Capacity, v.Free)
	}
}

// The greatest pool that there is.
func TestP10_1ExtendToTheMost(t *testing.T) {
	b := made(t, 262143, 1)
	b.checkRefused(extend(262145), api.ErrActSize)
	b.checkRefused(extend(262143), api.ErrActSize)
	b.do(extend(262144))
	b.checkRefused(extend(262144), api.ErrActSize)
	b.checkRefused(extend(262145), api.ErrActSize)
	b.checkFree(262144)
}

// All of a volume that there may be is mapped; then some of it goes.
func TestP10_1AGreatVolume(t *testing.T) {
	b := made(t, 9000, 0)
	b.do(create("a", 262144))
	const first, count = 120000, 8192
	for l := first; l < first+count; l += 32 {
		b.checkCost(fill("a", l, l+32), 32+b.newNodes(l, first))
		b.do(fill("a", l, l+32))
		b.commit()
	}
	b.checkVolume(api.Volume{Name: "a", ID: 1, Size: 262144, Mapped: []api.Range{{From: first, To: first + count}}})
	free := b.free()
	b.do(snap("s", "a"))
	b.checkCost(discard("a", first+1, first+count-1), 5)
	b.do(discard("a", first+1, first+count-1))
	b.commit()
	b.checkFree(free - 5)
	b.do(remove("s"))
	b.checkVolume(api.Volume{Name: "a", ID: 1, Size: 262144, Mapped: []api.Range{{From: first, To: first + 1}, {From: first + count - 1, To: first + count}}})
	b.commit()
	b.checkFree(9000 - 7)
}

// newNodes tells how many nodes a Fill of 32 from l on takes, where all from first up to l is mapped.
func (b *bench) newNodes(l int, first int) int {
	n := 0
	for _, span := range []int{64, 4096, 262144} {
		if l == first {
			n++
		} else if (l-1)/span != l/span {
			n++
		}
		if l/span != (l+31)/span {
			n++
		}
	}
	return n
}

func TestP10_2Read(t *testing.T) {
	b := made(t, 100, 0)
	b.do(create("a", 10), write("a", 0, noise(512, 1)), create("p", 10))
	b.setPartial("p")
	for _, name := range []string{"", "A", "1", "a ", "abcdefghijklmnopqrstuvwxyz012345"} {
		for _, l := range []int{-1, 0, 10} {
			b.checkNoRead(name, l, api.ErrActName)
		}
	}
	for _, l := range []int{-1, 0, 10} {
		b.checkNoRead("b", l, api.ErrActUnknown)
	}
	for _, l := range []int{-1 << 63, -1, 10, 11, 262144, 1<<63 - 1} {
		b.checkNoRead("a", l, api.ErrActRange)
		b.checkNoRead("p", l, api.ErrActRange)
	}
	b.checkNoRead("p", 0, api.ErrActPartial)
	b.checkNoRead("p", 9, api.ErrActPartial)
	if !bytes.Equal(b.read("a", 0), noise(512, 1)) {
		t.Errorf("Read(a, 0) gives other bytes")
	}
	b.checkRead("a", 9, 0)
	// It is what t sees: with its writes, without those that were gone back behind.
	b.commit()
	m := b.mark()
	b.do(write("a", 0, full(2)), write("a", 9, full(3)))
	b.checkRead("a", 0, 2)
	b.checkRead("a", 9, 3)
	b.back(m)
	b.checkRead("a", 9, 0)
	if !bytes.Equal(b.read("a", 0), noise(512, 1)) {
		t.Errorf("Read(a, 0) behind Back gives other bytes")
	}
	b.checkUnwritten("Read")
}

func TestP10_3CostChangesNothing(t *testing.T) {
	b := used(t)
	for _, o := range allKinds() {
		before := b.image()
		act.Cost(b.p, b.x, o)
		if n := b.mark(); n != 0 {
			t.Errorf("behind Cost(%s) Mark() = %d; want 0", told(o), n)
		}
		b.checkUnwritten("Cost")
		if !bytes.Equal(b.image(), before) {
			t.Errorf("Cost(%s) has changed the disk", told(o))
		}
	}
}

// used gives a pool with volumes that share, one of them partial, all of it committed.
func used(t *testing.T) *bench {
	t.Helper()
	b := made(t, 300, 36)
	b.do(create("a", 5000), write("a", 0, full(1)), write("a", 1, full(2)), write("a", 64, full(3)), write("a", 4999, full(4)))
	b.do(snap("s", "a"), write("a", 1, full(5)), clone("c", "a"), write("c", 70, full(6)), discard("c", 0, 1))
	b.do(create("e", 50), create("p", 20), write("p", 3, full(7)))
	b.setPartial("p")
	b.commit()
	return b
}

// allKinds gives an operation of each kind that is done over a used pool.
func allKinds() []api.Op {
	return []api.Op{
		create("n", 100), snap("n", "a"), clone("n", "s"), resize("a", 65), resize("a", 262144), rename("a", "z"), rename("s", "n"),
		remove("c"), remove("p"), remove("e"), restore("a", "s"), restore("s", "c"), restore("c", "e"), restore("e", "a"), restore("a", "a"),
		write("a", 0, full(50)), write("s", 64, full(51)), write("c", 2, full(52)), write("e", 49, full(53)), write("c", 70, full(54)),
		discard("a", 1, 65), discard("s", 0, 5000), discard("c", 0, 71), discard("e", 0, 50),
		fill("a", 0, 32), fill("s", 60, 70), fill("c", 4000, 4032), fill("e", 18, 50), fill("a", 4090, 4100),
		extend(301), extend(336),
	}
}
