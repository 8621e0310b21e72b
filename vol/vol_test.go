package vol_test

import (
	"bytes"
	"fmt"
	"slices"
	"strings"
	"testing"

	"cistern/api"
	"cistern/disk"
	"cistern/pool"
	"cistern/txn"
	"cistern/vol"
)

// full gives a block that is one byte all through.
func full(name byte) []byte { return bytes.Repeat([]byte{name}, 512) }

// noise gives bytes that look like chance and are the same in each run.
func noise(size int, seed uint32) []byte {
	out := make([]byte, size)
	for i := range out {
		seed = seed*1664525 + 1013904223
		out[i] = byte(seed >> 24)
	}
	return out
}

func create(name string, to int) api.Op { return api.Op{Kind: api.OpCreate, Name: name, To: to} }

func snap(name string, other string) api.Op {
	return api.Op{Kind: api.OpSnap, Name: name, Other: other}
}

func clone(name string, other string) api.Op {
	return api.Op{Kind: api.OpClone, Name: name, Other: other}
}

func resize(name string, to int) api.Op { return api.Op{Kind: api.OpResize, Name: name, To: to} }

func rename(name string, other string) api.Op {
	return api.Op{Kind: api.OpRename, Name: name, Other: other}
}

func remove(name string) api.Op { return api.Op{Kind: api.OpDelete, Name: name} }

func restore(name string, other string) api.Op {
	return api.Op{Kind: api.OpRestore, Name: name, Other: other}
}

func write(name string, from int, data []byte) api.Op {
	return api.Op{Kind: api.OpWrite, Name: name, From: from, Data: data}
}

func discard(name string, from int, to int) api.Op {
	return api.Op{Kind: api.OpDiscard, Name: name, From: from, To: to}
}

func fill(name string, from int, to int) api.Op {
	return api.Op{Kind: api.OpFill, Name: name, From: from, To: to}
}

func extend(to int) api.Op { return api.Op{Kind: api.OpExtend, To: to} }

// told tells an operation without its data.
func told(o api.Op) string {
	return fmt.Sprintf("kind %d, %q, %q, %d, %d, %d bytes", o.Kind, o.Name, o.Other, o.From, o.To, len(o.Data))
}

// bench is a pool and its disk.
type bench struct {
	t *testing.T
	d *disk.Disk
	p *pool.Pool
}

// made gives a new pool of a capacity, on a disk that holds so many more pool blocks.
func made(t *testing.T, capacity int, more int) *bench {
	t.Helper()
	blocks, e := pool.Needed(capacity + more)
	if e != api.OK {
		t.Fatalf("Needed(%d) = %d", capacity+more, e)
	}
	d, e := disk.New(blocks)
	if e != api.OK {
		t.Fatalf("disk.New(%d) = %d", blocks, e)
	}
	if e := pool.Format(d, capacity); e != api.OK {
		t.Fatalf("Format(d, %d) = %d", capacity, e)
	}
	return found(t, d)
}

// found gives the pool that is found on a disk.
func found(t *testing.T, d *disk.Disk) *bench {
	t.Helper()
	p, e := pool.Open(d)
	if e != api.OK {
		t.Fatalf("Open(d) = %d", e)
	}
	return &bench{t: t, d: d, p: p}
}

func diskOf(t *testing.T, image []byte) *disk.Disk {
	t.Helper()
	d, e := disk.Open(image)
	if e != api.OK {
		t.Fatalf("disk.Open = %d", e)
	}
	return d
}

// again opens the pool anew over the same disk.
func (b *bench) again() {
	b.t.Helper()
	*b = *found(b.t, b.d)
}

func (b *bench) begin() *txn.Txn {
	b.t.Helper()
	x, e := b.p.Begin()
	if e != api.OK {
		b.t.Fatalf("Begin() = %d", e)
	}
	return x
}

func (b *bench) commit(x *txn.Txn) {
	b.t.Helper()
	if e := x.Commit(); e != api.OK {
		b.t.Fatalf("Commit() = %d", e)
	}
}

func (b *bench) sync() {
	b.t.Helper()
	if e := b.p.Sync(); e != api.OK {
		b.t.Fatalf("Sync() = %d", e)
	}
}

// checkClosed holds that no transaction is open.
func (b *bench) checkClosed(what string) {
	b.t.Helper()
	x, e := b.p.Begin()
	if e != api.OK {
		b.t.Fatalf("behind %s Begin() = %d", what, e)
	}
	if e := x.Abort(); e != api.OK {
		b.t.Fatalf("Abort() = %d", e)
	}
}

// darken turns the power off.
func (b *bench) darken() {
	b.t.Helper()
	b.d.Fuse(0)
	if e := b.d.Flush(); e != api.ErrDiskOff {
		b.t.Fatalf("Flush() with a fuse of 0 = %d", e)
	}
}

func (b *bench) pending() int {
	b.t.Helper()
	pending, e := b.d.Pending()
	if e != api.OK {
		b.t.Fatalf("Pending() = %d", e)
	}
	return len(pending)
}

func firstPlaces(n int) []int {
	places := make([]int, n)
	for i := range places {
		places[i] = i
	}
	return places
}

func (b *bench) crashed(keep []int) []byte {
	b.t.Helper()
	image, e := b.d.Crash(keep)
	if e != api.OK {
		b.t.Fatalf("Crash = %d", e)
	}
	return image
}

// image gives all that the disk is seen to hold, and how much of it does not last.
func (b *bench) image() string {
	b.t.Helper()
	n := b.pending()
	return string(b.crashed(firstPlaces(n))) + fmt.Sprint(n)
}

// lasting gives the pool that is found behind a cut now that no pending write survives.
func (b *bench) lasting() *bench {
	b.t.Helper()
	return found(b.t, diskOf(b.t, b.crashed(nil)))
}

// setPartial says of a volume that it is partial.
func (b *bench) setPartial(name string) {
	b.t.Helper()
	x := b.begin()
	v, e := b.p.Catalog().Find(x, name)
	if e != api.OK {
		b.t.Fatalf("Find(t, %q) = %d", name, e)
	}
	v.Partial = true
	if e := b.p.Catalog().Put(x, v); e != api.OK {
		b.t.Fatalf("Put(t, %v) = %d", v, e)
	}
	b.commit(x)
}

func (b *bench) setSlot(s api.Slot) {
	b.t.Helper()
	x := b.begin()
	if e := b.p.SetSlot(x, s); e != api.OK {
		b.t.Fatalf("SetSlot(t, %v) = %d", s, e)
	}
	b.commit(x)
}

// take takes pool blocks, up to where so many are free. It gives the last one.
func (b *bench) take(left int) int {
	b.t.Helper()
	x := b.begin()
	last := 0
	for {
		n, e := b.p.Space().Free(x)
		if e != api.OK {
			b.t.Fatalf("Free(t) = %d", e)
		}
		if n <= left {
			break
		}
		if last, e = b.p.Space().Alloc(x); e != api.OK {
			b.t.Fatalf("Alloc(t) = %d", e)
		}
	}
	b.commit(x)
	return last
}

// give lets a pool block go that was taken.
func (b *bench) give(block int) {
	b.t.Helper()
	x := b.begin()
	if n, e := b.p.Space().Unref(x, block); n != 0 || e != api.OK {
		b.t.Fatalf("Unref(t, %d) = %d, %d", block, n, e)
	}
	b.commit(x)
}

// do does operations that are not refused.
func (b *bench) do(ops ...api.Op) {
	b.t.Helper()
	for _, o := range ops {
		b.check(o, api.OK)
	}
}

func (b *bench) check(o api.Op, want api.Errno) {
	b.t.Helper()
	if e := vol.Do(b.p, o); e != want {
		b.t.Errorf("Do(%s) = %d; want %d", told(o), e, want)
	}
	b.checkClosed("Do")
}

// checkRefused holds that an operation is refused, and that nothing is changed by it.
func (b *bench) checkRefused(o api.Op, want api.Errno) {
	b.t.Helper()
	before, view := b.image(), fmt.Sprint(b.view())
	b.check(o, want)
	if b.image() != before {
		b.t.Errorf("Do(%s), which is refused, has changed the disk", told(o))
	}
	if after := fmt.Sprint(b.view()); after != view {
		b.t.Errorf("Do(%s), which is refused, has changed the view from %s to %s", told(o), view, after)
	}
}

func (b *bench) read(name string, l int) []byte {
	b.t.Helper()
	data, e := vol.Read(b.p, name, l)
	if e != api.OK || len(data) != 512 {
		b.t.Fatalf("Read(%q, %d) = %d bytes, %d", name, l, len(data), e)
	}
	b.checkClosed("Read")
	return data
}

func (b *bench) checkRead(name string, l int, want byte) {
	b.t.Helper()
	if !bytes.Equal(b.read(name, l), full(want)) {
		b.t.Errorf("Read(%q, %d) gives others than %d", name, l, want)
	}
}

func (b *bench) checkNoRead(name string, l int, want api.Errno) {
	b.t.Helper()
	if data, e := vol.Read(b.p, name, l); len(data) != 0 || e != want {
		b.t.Errorf("Read(%q, %d) = %d bytes, %d; want none, %d", name, l, len(data), e, want)
	}
	b.checkClosed("Read")
}

func (b *bench) mapped(name string) []api.Range {
	b.t.Helper()
	ranges, e := vol.Mapped(b.p, name)
	if e != api.OK {
		b.t.Fatalf("Mapped(%q) = %d", name, e)
	}
	b.checkClosed("Mapped")
	return ranges
}

func (b *bench) checkMapped(name string, want ...api.Range) {
	b.t.Helper()
	if got := b.mapped(name); !slices.Equal(got, want) {
		b.t.Errorf("Mapped(%q) = %v; want %v", name, got, want)
	}
}

func (b *bench) checkNotMapped(name string, want api.Errno) {
	b.t.Helper()
	if ranges, e := vol.Mapped(b.p, name); len(ranges) != 0 || e != want {
		b.t.Errorf("Mapped(%q) = %v, %d; want none, %d", name, ranges, e, want)
	}
	b.checkClosed("Mapped")
}

func (b *bench) view() api.View {
	b.t.Helper()
	v, e := vol.View(b.p)
	if e != api.OK {
		b.t.Fatalf("View() = %d", e)
	}
	b.checkClosed("View")
	return v
}

func (b *bench) checkView(want api.View) {
	b.t.Helper()
	if got := b.view(); fmt.Sprint(got) != fmt.Sprint(want) {
		b.t.Errorf("View() = %v; want %v", got, want)
	}
}

func (b *bench) checkFree(want int) {
	b.t.Helper()
	if n := b.view().Free; n != want {
		b.t.Errorf("%d pool blocks are free; want %d", n, want)
	}
}

// running is a program that has not ended.
func running(ops ...api.Op) api.Slot { return api.Slot{State: api.SlotRunning, Ops: ops} }

func TestP11ExamplesInTheirOrder(t *testing.T) {
	b := made(t, 100, 0)
	b.do(create("a", 10), write("a", 3, full('X')))
	b.checkRead("a", 3, 'X')
	b.checkRead("a", 4, 0)

	b.do(fill("a", 4, 7))
	b.checkMapped("a", api.Range{From: 3, To: 7})
	volume := api.Volume{Name: "a", ID: 1, Size: 10, Mapped: []api.Range{{From: 3, To: 7}}}
	b.checkView(api.View{Capacity: 100, Free: 93, Next: 2, Volumes: []api.Volume{volume}})

	b.check(create("a", 10), api.ErrActTaken)
	b.checkNoRead("b", 0, api.ErrActUnknown)
	b.checkNotMapped("A", api.ErrActName)

	x := b.begin()
	if e := vol.Do(b.p, create("b", 10)); e != api.ErrTxnOpen {
		t.Errorf("Do with a transaction open = %d; want ErrTxnOpen", e)
	}
	if v, e := vol.View(b.p); fmt.Sprint(v) != fmt.Sprint(api.View{}) || e != api.ErrTxnOpen {
		t.Errorf("View with a transaction open = %v, %d; want ErrTxnOpen", v, e)
	}
	if e := b.p.SetSlot(x, running(remove("a"))); e != api.OK {
		t.Fatalf("SetSlot = %d", e)
	}
	b.commit(x)

	b.check(create("A", 0), api.ErrVolBusy)
	b.checkRead("a", 3, 'X')
}

// used gives a pool with volumes that share, one of them partial: a (mapped, with children), s and c of it, e (empty), p (partial).
func used(t *testing.T) *bench {
	t.Helper()
	b := made(t, 300, 36)
	b.do(create("a", 5000), write("a", 0, full(1)), write("a", 1, full(2)), write("a", 64, full(3)), write("a", 4999, full(4)))
	b.do(snap("s", "a"), write("a", 1, full(5)), clone("c", "a"), write("c", 70, full(6)), discard("c", 0, 1))
	b.do(create("e", 50), create("p", 20), write("p", 3, full(7)), write("p", 5, full(8)))
	b.setPartial("p")
	return b
}

// allKinds gives operations of each kind that are done over a used pool.
func allKinds() []api.Op {
	return []api.Op{
		create("n", 100), snap("n", "a"), clone("n", "s"), resize("a", 65), resize("a", 262144), rename("a", "z"), rename("s", "n"),
		remove("c"), remove("p"), remove("e"), restore("a", "s"), restore("s", "c"), restore("c", "e"), restore("e", "a"), restore("a", "a"),
		write("a", 0, full(50)), write("s", 64, full(51)), write("c", 2, full(52)), write("e", 49, full(53)), write("c", 70, full(54)),
		discard("a", 1, 65), discard("s", 0, 5000), discard("c", 0, 71), discard("e", 0, 50),
		fill("a", 0, 32), fill("s", 60, 70), fill("c", 4000, 4032), fill("e", 18, 50), fill("a", 4090, 4100),
		extend(301), extend(336),
	}
}

// What is done is committed: whoever opens the pool anew finds it. It lasts behind the next Sync, and not ahead of it.
func TestP11_1WhatIsDoneIsCommitted(t *testing.T) {
	for _, o := range allKinds() {
		b := used(t)
		b.sync()
		before := fmt.Sprint(b.view())
		b.do(o)
		after := fmt.Sprint(b.view())
		if got := fmt.Sprint(b.lasting().view()); got != before {
			t.Errorf("Do(%s) lasts ahead of a Sync: %s; want %s", told(o), got, before)
		}
		b.sync()
		if got := fmt.Sprint(b.lasting().view()); got != after {
			t.Errorf("Do(%s) does not last behind a Sync: %s; want %s", told(o), got, after)
		}
		b.again()
		b.checkView(b.lasting().view())
	}
}

// Each operation is a transaction of its own: what it lets go is free behind it.
func TestP11_1WhatIsLetGoIsFreeBehindIt(t *testing.T) {
	b := made(t, 8, 0)
	b.do(create("a", 300))
	for i := range 40 {
		b.do(write("a", i*7, full(byte(i+1))))
		b.checkFree(4)
		b.do(discard("a", 0, 300))
		b.checkFree(8)
		b.do(fill("a", i, i+4))
		b.checkFree(8 - 4 - b.nodesOf(i, i+4))
		b.do(remove("a"), create("a", 300))
		b.checkFree(8)
	}
}

// nodesOf tells how many nodes a map has that maps a range alone.
func (b *bench) nodesOf(from int, to int) int {
	n := 0
	for _, span := range []int{64, 4096, 262144} {
		n += (to-1)/span - from/span + 1
	}
	return n
}

func TestP11_1EachKind(t *testing.T) {
	b := made(t, 100, 36)
	b.do(create("a", 10), write("a", 5, full(5)), snap("s", "a"), clone("c", "s"), rename("c", "~c"), resize("~c", 7))
	b.do(write("a", 5, full(6)), discard("s", 5, 6), fill("s", 0, 2), extend(120))
	b.checkView(api.View{Capacity: 120, Free: 120 - 4 - 4 - 5, Next: 4, Volumes: []api.Volume{
		{Name: "a", ID: 1, Size: 10, Mapped: []api.Range{{From: 5, To: 6}}},
		{Name: "s", ID: 2, Size: 10, Origin: 1, Kind: api.KindSnap, Mapped: []api.Range{{From: 0, To: 2}}},
		{Name: "~c", ID: 3, Size: 7, Origin: 2, Mapped: []api.Range{{From: 5, To: 6}}},
	}})
	b.checkRead("a", 5, 6)
	b.checkRead("s", 5, 0)
	b.checkRead("~c", 5, 5)
	b.do(restore("a", "~c"), remove("~c"), remove("s"))
	b.checkView(api.View{Capacity: 120, Free: 116, Next: 4, Volumes: []api.Volume{{Name: "a", ID: 1, Size: 7, Mapped: []api.Range{{From: 5, To: 6}}}}})
	b.checkRead("a", 5, 5)
}

// An operation that changes nothing is done, and writes nothing.
func TestP11_1WhatChangesNothing(t *testing.T) {
	b := used(t)
	before := b.image()
	b.do(restore("a", "a"), discard("e", 0, 50), discard("a", 3, 3), fill("a", 0, 2), fill("e", 9, 9), resize("a", 5000))
	if b.image() != before {
		t.Errorf("operations that change nothing have written to the disk")
	}
}

func TestP11_2Read(t *testing.T) {
	longest := strings.Repeat("z", 31)
	b := used(t)
	b.do(create(longest, 3), write(longest, 2, noise(512, 1)), create("~", 1), write("~", 0, full(9)))
	for _, name := range []string{"a", "s", "c", "e", longest, "~"} {
		v := b.volume(name)
		for _, l := range []int{-1 << 63, -1, v.Size, v.Size + 1, 262144, 1<<63 - 1} {
			b.checkNoRead(name, l, api.ErrActRange)
		}
		b.read(name, 0)
		b.read(name, v.Size-1)
	}
	for l, want := range map[int]byte{0: 1, 1: 5, 2: 0, 63: 0, 64: 3, 65: 0, 4998: 0, 4999: 4} {
		b.checkRead("a", l, want)
	}
	for l, want := range map[int]byte{0: 1, 1: 2, 64: 3, 70: 0, 4999: 4} {
		b.checkRead("s", l, want)
	}
	for l, want := range map[int]byte{0: 0, 1: 5, 64: 3, 70: 6, 4999: 4} {
		b.checkRead("c", l, want)
	}
	if !bytes.Equal(b.read(longest, 2), noise(512, 1)) {
		t.Errorf("Read(%q, 2) gives other bytes", longest)
	}
	b.checkRead("~", 0, 9)
	for _, name := range badNames() {
		for _, l := range []int{-1, 0, 5000} {
			b.checkNoRead(name, l, api.ErrActName)
		}
	}
	for _, name := range []string{"b", "aa", "~~", strings.Repeat("z", 30)} {
		for _, l := range []int{-1, 0, 5000} {
			b.checkNoRead(name, l, api.ErrActUnknown)
		}
	}
	for l, want := range map[int]api.Errno{-1: api.ErrActRange, 0: api.ErrActPartial, 3: api.ErrActPartial, 19: api.ErrActPartial, 20: api.ErrActRange} {
		b.checkNoRead("p", l, want)
	}
}

// badNames gives names that may not be.
func badNames() []string {
	out := []string{"", strings.Repeat("a", 32), strings.Repeat("a", 300), "A", "1a", "-a", "@", ".", "_", "a b", "a\x00", "é", "a/", "a\n", "aZ"}
	for c := range 256 {
		if !strings.ContainsRune("abcdefghijklmnopqrstuvwxyz~", rune(c)) {
			out = append(out, string([]byte{byte(c)}))
		}
	}
	return out
}

func (b *bench) volume(name string) api.Volume {
	b.t.Helper()
	for _, v := range b.view().Volumes {
		if v.Name == name {
			return v
		}
	}
	b.t.Fatalf("the view shows no %q", name)
	return api.Volume{}
}

func TestP11_3View(t *testing.T) {
	b := made(t, 20, 10)
	b.checkView(api.View{Capacity: 20, Free: 20, Next: 1})
	b.do(extend(25), create("b", 3), create("a", 262144), create("~", 9))
	b.do(write("a", 262143, full(1)), write("a", 0, full(1)), fill("~", 7, 9), fill("~", 3, 6))
	b.setPartial("b")
	b.checkView(api.View{Capacity: 25, Free: 25 - 7 - 8, Next: 4, Volumes: []api.Volume{
		{Name: "a", ID: 2, Size: 262144, Mapped: []api.Range{{From: 0, To: 1}, {From: 262143, To: 262144}}},
		{Name: "b", ID: 1, Size: 3, Partial: true},
		{Name: "~", ID: 3, Size: 9, Mapped: []api.Range{{From: 3, To: 6}, {From: 7, To: 9}}},
	}})
	// It is the pool's own view.
	x := b.begin()
	want, e := b.p.View(x)
	if e != api.OK {
		t.Fatalf("the pool's View = %d", e)
	}
	x.Abort()
	b.checkView(want)
}

func TestP11_4Mapped(t *testing.T) {
	longest := strings.Repeat("z", 31)
	b := used(t)
	b.checkMapped("a", api.Range{From: 0, To: 2}, api.Range{From: 64, To: 65}, api.Range{From: 4999, To: 5000})
	b.checkMapped("s", api.Range{From: 0, To: 2}, api.Range{From: 64, To: 65}, api.Range{From: 4999, To: 5000})
	b.checkMapped("c", api.Range{From: 1, To: 2}, api.Range{From: 64, To: 65}, api.Range{From: 70, To: 71}, api.Range{From: 4999, To: 5000})
	b.checkMapped("e")
	b.checkMapped("p", api.Range{From: 3, To: 4}, api.Range{From: 5, To: 6})
	b.do(create(longest, 262144), write(longest, 262143, full(1)), fill(longest, 4090, 4100), create("~", 1), write("~", 0, full(0)))
	b.checkMapped(longest, api.Range{From: 4090, To: 4100}, api.Range{From: 262143, To: 262144})
	b.checkMapped("~", api.Range{From: 0, To: 1})
	for _, name := range badNames() {
		b.checkNotMapped(name, api.ErrActName)
	}
	for _, name := range []string{"b", "aa", "~~", strings.Repeat("z", 30), "n"} {
		b.checkNotMapped(name, api.ErrActUnknown)
	}
	b.do(rename("e", "n"), remove("p"), discard("a", 0, 5000))
	b.checkMapped("n")
	b.checkNotMapped("e", api.ErrActUnknown)
	b.checkNotMapped("p", api.ErrActUnknown)
	b.checkMapped("a")
}

// Blocks are mapped and let go one by one, over the seams of nodes: the ranges meet, and part again.
func TestP11_4RangesThatMeetAndPart(t *testing.T) {
	b := made(t, 200, 0)
	b.do(create("a", 9000))
	is := make([]bool, 9000)
	script := noise(2*300, 3)
	for n := 0; n < len(script); n += 2 {
		l := []int{0, 60, 4092}[script[n]%3] + int(script[n+1])%8
		if script[n]>>6 == 0 {
			b.do(discard("a", l, l+2))
			is[l], is[l+1] = false, false
		} else {
			b.do(write("a", l, full(1)))
			is[l] = true
		}
		b.checkMapped("a", rangesOf(is)...)
	}
}

// rangesOf gives the ranges of what is set, plainly.
func rangesOf(is []bool) []api.Range {
	var out []api.Range
	for l, mapped := range is {
		switch {
		case !mapped:
		case l > 0 && is[l-1]:
			out[len(out)-1].To = l + 1
		default:
			out = append(out, api.Range{From: l, To: l + 1})
		}
	}
	return out
}

// All of a volume that there may be; and the ranges of one in which every second block is mapped.
func TestP11_4AGreatVolume(t *testing.T) {
	b := made(t, 5000, 0)
	b.do(create("a", 262144), create("b", 262144))
	for l := 100000; l < 104096; l += 32 {
		if e := vol.Do(b.p, fill("a", l, l+32)); e != api.OK {
			t.Fatalf("Fill from %d = %d", l, e)
		}
	}
	b.checkMapped("a", api.Range{From: 100000, To: 104096})
	for l := 0; l < 500; l += 2 {
		if e := vol.Do(b.p, write("b", l, full(1))); e != api.OK {
			t.Fatalf("Write at %d = %d", l, e)
		}
	}
	ranges := b.mapped("b")
	if len(ranges) != 250 || ranges[249] != (api.Range{From: 498, To: 499}) {
		t.Errorf("of 250 blocks there are %d ranges: %v", len(ranges), ranges)
	}
}
