package usage_test

import (
	"bytes"
	"fmt"
	"slices"
	"strings"
	"testing"

	"cistern/api"
	"cistern/disk"
	"cistern/pool"
	"cistern/txn"
	"cistern/usage"
	"cistern/vol"
)

// full gives a block that is one byte all through.
func full(name byte) []byte { return bytes.Repeat([]byte{name}, 512) }

// noise gives bytes that look like chance and are the same in each run.
func noise(size int, seed uint32) []byte {
	out := make([]byte, size)
	for i := range out {
		seed = seed*1664525 + 1013904223
		out[i] = byte(seed >> 24)
	}
	return out
}

func create(name string, to int) api.Op { return api.Op{Kind: api.OpCreate, Name: name, To: to} }

func snap(name string, other string) api.Op {
	return api.Op{Kind: api.OpSnap, Name: name, Other: other}
}

func clone(name string, other string) api.Op {
	return api.Op{Kind: api.OpClone, Name: name, Other: other}
}

func resize(name string, to int) api.Op { return api.Op{Kind: api.OpResize, Name: name, To: to} }

func rename(name string, other string) api.Op {
	return api.Op{Kind: api.OpRename, Name: name, Other: other}
}

func remove(name string) api.Op { return api.Op{Kind: api.OpDelete, Name: name} }

func restore(name string, other string) api.Op {
	return api.Op{Kind: api.OpRestore, Name: name, Other: other}
}

func write(name string, from int, data []byte) api.Op {
	return api.Op{Kind: api.OpWrite, Name: name, From: from, Data: data}
}

func discard(name string, from int, to int) api.Op {
	return api.Op{Kind: api.OpDiscard, Name: name, From: from, To: to}
}

func fill(name string, from int, to int) api.Op {
	return api.Op{Kind: api.OpFill, Name: name, From: from, To: to}
}

func extend(to int) api.Op { return api.Op{Kind: api.OpExtend, To: to} }

// take gives a usage by its numbers.
func take(name string, mapped int, nodes int, own int, shared int) api.Usage {
	return api.Usage{Name: name, Mapped: mapped, Nodes: nodes, Own: own, Shared: shared}
}

// bench is a pool and its disk.
type bench struct {
	t *testing.T
	d *disk.Disk
	p *pool.Pool
}

// made gives a new pool of a capacity, on a disk that holds so many more pool blocks.
func made(t *testing.T, capacity int, more int) *bench {
	t.Helper()
	blocks, e := pool.Needed(capacity + more)
	if e != api.OK {
		t.Fatalf("Needed(%d) = %d", capacity+more, e)
	}
	d, e := disk.New(blocks)
	if e != api.OK {
		t.Fatalf("disk.New(%d) = %d", blocks, e)
	}
	if e := pool.Format(d, capacity); e != api.OK {
		t.Fatalf("Format(d, %d) = %d", capacity, e)
	}
	b := &bench{t: t, d: d}
	b.again()
	return b
}

// again opens the pool anew over the same disk.
func (b *bench) again() {
	b.t.Helper()
	p, e := pool.Open(b.d)
	if e != api.OK {
		b.t.Fatalf("Open(d) = %d", e)
	}
	b.p = p
}

// fork gives another pool, over a disk of its own that holds what this one is seen to hold.
func (b *bench) fork() *bench {
	b.t.Helper()
	image, _ := b.image()
	d, e := disk.Open(image)
	if e != api.OK {
		b.t.Fatalf("disk.Open = %d", e)
	}
	out := &bench{t: b.t, d: d}
	out.again()
	return out
}

func (b *bench) begin() *txn.Txn {
	b.t.Helper()
	x, e := b.p.Begin()
	if e != api.OK {
		b.t.Fatalf("Begin() = %d", e)
	}
	return x
}

func (b *bench) commit(x *txn.Txn) {
	b.t.Helper()
	if e := x.Commit(); e != api.OK {
		b.t.Fatalf("Commit() = %d", e)
	}
}

// checkClosed holds that no transaction is open.
func (b *bench) checkClosed(what string) {
	b.t.Helper()
	x, e := b.p.Begin()
	if e != api.OK {
		b.t.Fatalf("behind %s Begin() = %d", what, e)
	}
	if e := x.Abort(); e != api.OK {
		b.t.Fatalf("Abort() = %d", e)
	}
}

// darken turns the power off.
func (b *bench) darken() {
	b.t.Helper()
	b.d.Fuse(0)
	if e := b.d.Flush(); e != api.ErrDiskOff {
		b.t.Fatalf("Flush() with a fuse of 0 = %d", e)
	}
}

// image gives all that the disk is seen to hold, and which of its writes do not last.
func (b *bench) image() ([]byte, []int) {
	b.t.Helper()
	pending, e := b.d.Pending()
	if e != api.OK {
		b.t.Fatalf("Pending() = %d", e)
	}
	keep := make([]int, len(pending))
	for i := range keep {
		keep[i] = i
	}
	image, e := b.d.Crash(keep)
	if e != api.OK {
		b.t.Fatalf("Crash = %d", e)
	}
	return image, pending
}

// onDisk gives the same as one text.
func (b *bench) onDisk() string {
	b.t.Helper()
	image, pending := b.image()
	return string(image) + fmt.Sprint(pending)
}

// state gives all that a call must not change: the disk, and what the pool tells.
func (b *bench) state() string {
	b.t.Helper()
	v, e := vol.View(b.p)
	if e != api.OK {
		b.t.Fatalf("View() = %d", e)
	}
	return fmt.Sprint(v) + b.onDisk()
}

// entry changes what the catalog holds of a volume.
func (b *bench) entry(name string, change func(v *api.Entry)) {
	b.t.Helper()
	x := b.begin()
	v, e := b.p.Catalog().Find(x, name)
	if e != api.OK {
		b.t.Fatalf("Find(t, %q) = %d", name, e)
	}
	change(&v)
	if e := b.p.Catalog().Put(x, v); e != api.OK {
		b.t.Fatalf("Put(t, %v) = %d", v, e)
	}
	b.commit(x)
}

// setPartial says of volumes that they are partial, or whole.
func (b *bench) setPartial(partial bool, names ...string) {
	b.t.Helper()
	for _, name := range names {
		b.entry(name, func(v *api.Entry) { v.Partial = partial })
	}
}

func (b *bench) setSlot(s api.Slot) {
	b.t.Helper()
	x := b.begin()
	if e := b.p.SetSlot(x, s); e != api.OK {
		b.t.Fatalf("SetSlot(t, %v) = %d", s, e)
	}
	b.commit(x)
}

// do does operations that are not refused.
func (b *bench) do(ops ...api.Op) {
	b.t.Helper()
	for _, o := range ops {
		if e := vol.Do(b.p, o); e != api.OK {
			b.t.Fatalf("Do(kind %d, %q, %q, %d, %d) = %d", o.Kind, o.Name, o.Other, o.From, o.To, e)
		}
	}
}

func (b *bench) of(name string) api.Usage {
	b.t.Helper()
	u, e := usage.Of(b.p, name)
	if e != api.OK {
		b.t.Fatalf("Of(%q) = %d", name, e)
	}
	b.checkClosed("Of")
	return u
}

func (b *bench) all() []api.Usage {
	b.t.Helper()
	all, e := usage.All(b.p)
	if e != api.OK {
		b.t.Fatalf("All() = %d", e)
	}
	b.checkClosed("All")
	return all
}

func (b *bench) total() api.Totals {
	b.t.Helper()
	totals, e := usage.Total(b.p)
	if e != api.OK {
		b.t.Fatalf("Total() = %d", e)
	}
	b.checkClosed("Total")
	return totals
}

// check holds what All tells, and Of of each volume, in the order of their names.
func (b *bench) check(want ...api.Usage) {
	b.t.Helper()
	if got := b.all(); !slices.Equal(got, want) {
		b.t.Errorf("All() = %v; want %v", got, want)
	}
	for _, u := range want {
		if got := b.of(u.Name); got != u {
			b.t.Errorf("Of(%q) = %v; want %v", u.Name, got, u)
		}
		if u.Own+u.Shared != u.Nodes+u.Mapped {
			b.t.Errorf("of %v own and shared are not nodes and mapped", u)
		}
	}
	b.checkSums()
}

// checkTotal holds what Total tells, but for the capacity that the pool was made of.
func (b *bench) checkTotal(want api.Totals) {
	b.t.Helper()
	if got := b.total(); got != want {
		b.t.Errorf("Total() = %v; want %v", got, want)
	}
}

// checkSums holds what P13.4 says of all that is told.
func (b *bench) checkSums() {
	b.t.Helper()
	totals, own := b.total(), 0
	for _, u := range b.all() {
		own += u.Own
	}
	if totals.Free+totals.Nodes+totals.Data != totals.Capacity {
		b.t.Errorf("of %v the parts are not the capacity", totals)
	}
	if own > totals.Nodes+totals.Data {
		b.t.Errorf("%d are volumes' own, and there are %v", own, totals)
	}
}

// checkDeletes holds that Own is by how much Free grows when a volume is deleted, of each that can be. It tells how many can.
func (b *bench) checkDeletes() int {
	b.t.Helper()
	deleted, free := 0, b.total().Free
	for _, u := range b.all() {
		other := b.fork()
		if e := vol.Do(other.p, remove(u.Name)); e != api.OK {
			continue
		}
		deleted++
		if got := other.total().Free - free; got != u.Own {
			b.t.Errorf("when %v is deleted %d blocks more are free", u, got)
		}
		other.checkSums()
	}
	return deleted
}

func TestP13ExamplesInTheirOrder(t *testing.T) {
	b := made(t, 100, 0)
	b.checkTotal(api.Totals{Capacity: 100, Free: 100})
	b.check()
	b.do(create("a", 10), write("a", 5, full(1)))
	b.check(take("a", 1, 3, 4, 0))
	b.checkTotal(api.Totals{Capacity: 100, Free: 96, Nodes: 3, Data: 1, Volumes: 1})
	b.do(snap("s", "a"))
	b.check(take("a", 1, 3, 0, 4), take("s", 1, 3, 0, 4))
	b.checkTotal(api.Totals{Capacity: 100, Free: 96, Nodes: 3, Data: 1, Volumes: 1, Snaps: 1})
	b.do(write("a", 6, full(1)))
	b.check(take("a", 2, 3, 4, 1), take("s", 1, 3, 3, 1))
	b.checkTotal(api.Totals{Capacity: 100, Free: 92, Nodes: 6, Data: 2, Volumes: 1, Snaps: 1})
	refuseOf(t, b.p, "A", api.ErrActName)
	refuseOf(t, b.p, "b", api.ErrActUnknown)
	b.checkDeletes()
}

// refuseOf holds that Of answers an error, and nothing beside it.
func refuseOf(t *testing.T, p *pool.Pool, name string, want api.Errno) {
	t.Helper()
	if u, e := usage.Of(p, name); u != (api.Usage{}) || e != want {
		t.Errorf("Of(%q) = %v, %d; want nothing, %d", name, u, e, want)
	}
}

// used gives a pool with volumes that share: a (with children), s and c of it, e (empty), o (of its own), l (of all sizes the greatest).
func used(t *testing.T) *bench {
	t.Helper()
	b := made(t, 300, 36)
	b.do(create("a", 5000), write("a", 0, full(1)), write("a", 1, full(2)), write("a", 64, full(3)), write("a", 4999, full(4)))
	b.do(snap("s", "a"), write("a", 1, full(5)), clone("c", "a"), write("c", 70, full(6)), discard("c", 0, 1))
	b.do(create("e", 50), create("o", 70), write("o", 1, full(2)), write("o", 64, full(4)), fill("o", 65, 70))
	b.do(create("l", 262144), write("l", 262143, full(9)), write("l", 0, full(1)))
	return b
}

// checkUsed holds what is told of a used pool.
func (b *bench) checkUsed() {
	b.t.Helper()
	b.check(
		take("a", 4, 6, 3, 7), // its own: a root, and the two nodes down to 1
		take("c", 4, 6, 5, 5), // its own: a root, and the nodes down to 1 and 70, and 70
		take("e", 0, 0, 0, 0),
		take("l", 2, 5, 7, 0),
		take("o", 7, 4, 11, 0),
		take("s", 4, 6, 4, 6), // its own: a root, and the nodes down to 1, and 1
	)
	b.checkTotal(api.Totals{Capacity: 300, Free: 263, Nodes: 22, Data: 15, Volumes: 5, Snaps: 1})
}

func TestP13AUsedPool(t *testing.T) {
	b := used(t)
	b.checkUsed()
	b.again()
	b.checkUsed()
	// a has children.
	if n := b.checkDeletes(); n != 5 {
		t.Errorf("of six volumes %d could be deleted", n)
	}
}

// badNames gives names that may not be.
func badNames() []string {
	out := []string{"", strings.Repeat("a", 32), strings.Repeat("a", 300), "A", "1a", "-a", "@", ".", "_", "a b", "a\x00", "é", "a/", "a\n", "aZ"}
	for c := range 256 {
		if !strings.ContainsRune("abcdefghijklmnopqrstuvwxyz~", rune(c)) {
			out = append(out, string([]byte{byte(c)}))
		}
		if !strings.ContainsRune("abcdefghijklmnopqrstuvwxyz~0123456789.-_@", rune(c)) {
			out = append(out, string([]byte{'a', byte(c)}))
		}
	}
	return out
}

func TestP13_1Names(t *testing.T) {
	longest := strings.Repeat("z", 31)
	b := used(t)
	b.do(create(longest, 3), write(longest, 2, full(1)), snap("~", longest), snap("a.-_@~9", longest), write("~", 1, full(1)))
	for name, want := range map[string]api.Usage{
		longest:   take(longest, 1, 3, 0, 4),
		"~":       take("~", 2, 3, 4, 1),
		"a.-_@~9": take("a.-_@~9", 1, 3, 0, 4),
	} {
		if got := b.of(name); got != want {
			t.Errorf("Of(%q) = %v; want %v", name, got, want)
		}
	}
	before := b.state()
	for _, name := range badNames() {
		refuseOf(t, b.p, name, api.ErrActName)
		b.checkClosed("Of")
	}
	for _, name := range []string{"b", "aa", "~~", strings.Repeat("z", 30), "zz"} {
		refuseOf(t, b.p, name, api.ErrActUnknown)
		b.checkClosed("Of")
	}
	if b.state() != before {
		t.Errorf("calls that were refused have changed something")
	}
	b.do(rename("o", "n"), remove("e"))
	refuseOf(t, b.p, "o", api.ErrActUnknown)
	refuseOf(t, b.p, "e", api.ErrActUnknown)
	if got := b.of("n"); got != take("n", 7, 4, 11, 0) {
		t.Errorf("Of(n) = %v", got)
	}
}

// A volume, a snapshot and a clone, each whole and partial: it is told alike.
func TestP13PartialVolumes(t *testing.T) {
	b := used(t)
	for _, names := range [][]string{{"a"}, {"s"}, {"c", "e"}, {"a", "c", "e", "l", "o", "s"}} {
		b.setPartial(true, names...)
		b.checkUsed()
		b.setPartial(false, names...)
	}
	b.setPartial(true, "o", "s")
	b.checkDeletes()
	b.do(remove("o"))
	b.check(take("a", 4, 6, 3, 7), take("c", 4, 6, 5, 5), take("e", 0, 0, 0, 0), take("l", 2, 5, 7, 0), take("s", 4, 6, 4, 6))
	b.checkTotal(api.Totals{Capacity: 300, Free: 274, Nodes: 18, Data: 8, Volumes: 4, Snaps: 1})
}

// No volume, one, and as many as there may be, made in another order than that of their names.
func TestP13_2TheOrderOfTheNames(t *testing.T) {
	b := made(t, 200, 0)
	b.check()
	b.do(create("m", 9))
	b.check(take("m", 0, 0, 0, 0))
	b.do(write("m", 3, full(1)))
	var want []api.Usage
	for i := range 63 {
		name := fmt.Sprintf("%c%d", "~zab"[i%4], i*37%64)
		if i%2 == 0 {
			b.do(snap(name, "m"))
			want = append(want, take(name, 1, 3, 0, 4))
		} else {
			b.do(create(name, 1))
			want = append(want, take(name, 0, 0, 0, 0))
		}
	}
	want = append(want, take("m", 1, 3, 0, 4))
	slices.SortFunc(want, func(x, y api.Usage) int { return strings.Compare(x.Name, y.Name) })
	b.setPartial(true, want[0].Name, want[30].Name, want[63].Name)
	b.check(want...)
	b.checkTotal(api.Totals{Capacity: 200, Free: 196, Nodes: 3, Data: 1, Volumes: 32, Snaps: 32})
}

// What several volumes reach is counted once: all of it, some of it, none of it; as nodes and as data blocks.
func TestP13_3WhatSeveralReachIsCountedOnce(t *testing.T) {
	b := made(t, 100, 0)
	b.do(create("a", 9000), write("a", 0, full(1)), write("a", 64, full(2)), write("a", 4096, full(3)))
	alone := api.Totals{Capacity: 100, Free: 91, Nodes: 6, Data: 3, Volumes: 1}
	b.checkTotal(alone)
	b.check(take("a", 3, 6, 9, 0))
	// All is shared, by three.
	b.do(snap("s", "a"), clone("c", "s"))
	b.checkTotal(api.Totals{Capacity: 100, Free: 91, Nodes: 6, Data: 3, Volumes: 2, Snaps: 1})
	b.check(take("a", 3, 6, 0, 9), take("c", 3, 6, 0, 9), take("s", 3, 6, 0, 9))
	// One has a way of its own; what hangs beside that way is shared still.
	b.do(write("c", 0, full(1)))
	b.checkTotal(api.Totals{Capacity: 100, Free: 87, Nodes: 9, Data: 4, Volumes: 2, Snaps: 1})
	b.check(take("a", 3, 6, 0, 9), take("c", 3, 6, 4, 5), take("s", 3, 6, 0, 9))
	// A node of one's own with data that is shared.
	b.do(write("c", 65, full(1)))
	b.checkTotal(api.Totals{Capacity: 100, Free: 85, Nodes: 10, Data: 5, Volumes: 2, Snaps: 1})
	b.check(take("a", 3, 6, 0, 9), take("c", 4, 6, 6, 4), take("s", 3, 6, 0, 9))
	// Two of the three go on sharing; in the end nothing is shared.
	b.do(write("a", 0, full(1)), write("a", 64, full(1)), write("a", 4096, full(1)))
	b.checkTotal(api.Totals{Capacity: 100, Free: 76, Nodes: 16, Data: 8, Volumes: 2, Snaps: 1})
	b.check(take("a", 3, 6, 9, 0), take("c", 4, 6, 6, 4), take("s", 3, 6, 5, 4))
	b.do(write("c", 64, full(1)), write("c", 4096, full(1)))
	b.checkTotal(api.Totals{Capacity: 100, Free: 72, Nodes: 18, Data: 10, Volumes: 2, Snaps: 1})
	b.check(take("a", 3, 6, 9, 0), take("c", 4, 6, 10, 0), take("s", 3, 6, 9, 0))
	b.do(remove("c"), remove("s"))
	b.checkTotal(alone)
	b.check(take("a", 3, 6, 9, 0))
}

// Snapshots of snapshots: what the first of them has alone, and the last.
func TestP13SnapshotsOfSnapshots(t *testing.T) {
	b := made(t, 200, 0)
	b.do(create("a", 100), write("a", 0, full(0)))
	names := []string{"a", "b", "c", "d", "e"}
	for i, name := range names[1:] {
		b.do(snap(name, names[i]), write(name, i+1, full(byte(i+1))))
	}
	// Each has its three nodes and the block that it has written last; but of those all but the last is its child's too.
	b.check(take("a", 1, 3, 3, 1), take("b", 2, 3, 3, 2), take("c", 3, 3, 3, 3), take("d", 4, 3, 3, 4), take("e", 5, 3, 4, 4))
	b.checkTotal(api.Totals{Capacity: 200, Free: 180, Nodes: 15, Data: 5, Volumes: 1, Snaps: 4})
	b.checkDeletes()
	for i := len(names) - 1; i > 0; i-- {
		own, free := b.of(names[i]).Own, b.total().Free
		b.do(remove(names[i]))
		if got := b.total().Free - free; got != own || own != 4 {
			t.Errorf("of its own %q has %d; when it is deleted %d more are free", names[i], own, got)
		}
	}
	b.check(take("a", 1, 3, 4, 0))
}

// A block of zeros that is mapped takes as much as any other.
func TestP13BlocksOfZeros(t *testing.T) {
	b := made(t, 100, 0)
	b.do(create("a", 100), write("a", 3, full(0)), fill("a", 60, 70))
	b.check(take("a", 11, 4, 15, 0))
	b.do(create("b", 100), fill("b", 3, 4), fill("b", 3, 4), discard("a", 64, 100))
	b.check(take("a", 5, 3, 8, 0), take("b", 1, 3, 4, 0))
	b.checkTotal(api.Totals{Capacity: 100, Free: 88, Nodes: 6, Data: 6, Volumes: 2})
	b.do(discard("a", 0, 100))
	b.check(take("a", 0, 0, 0, 0), take("b", 1, 3, 4, 0))
	b.checkTotal(api.Totals{Capacity: 100, Free: 96, Nodes: 3, Data: 1, Volumes: 2})
}

// To less, where all beyond goes, and to more again, where nothing comes; of what is one's own, and of what is shared.
func TestP13ResizeToLessAndToMore(t *testing.T) {
	b := made(t, 100, 36)
	b.do(create("a", 9000), write("a", 0, full(1)), write("a", 63, full(1)), write("a", 64, full(1)), write("a", 8999, full(1)))
	b.check(take("a", 4, 6, 10, 0))
	b.do(snap("s", "a"), resize("s", 64))
	b.check(take("a", 4, 6, 7, 3), take("s", 2, 3, 2, 3))
	b.do(resize("s", 63))
	b.check(take("a", 4, 6, 9, 1), take("s", 1, 3, 3, 1))
	b.do(resize("s", 262144))
	b.check(take("a", 4, 6, 9, 1), take("s", 1, 3, 3, 1))
	b.checkTotal(api.Totals{Capacity: 100, Free: 87, Nodes: 9, Data: 4, Volumes: 1, Snaps: 1})
	b.do(write("s", 262143, full(1)), resize("a", 1), resize("a", 9000))
	b.check(take("a", 1, 3, 3, 1), take("s", 2, 5, 6, 1))
	b.do(extend(136))
	b.checkTotal(api.Totals{Capacity: 136, Free: 126, Nodes: 8, Data: 2, Volumes: 1, Snaps: 1})
	b.checkDeletes()
}

// Volumes that reach nothing: they were never written, or all of them is gone.
func TestP13VolumesThatReachNothing(t *testing.T) {
	b := made(t, 100, 0)
	b.do(create("a", 1), create("b", 262144), snap("s", "a"), create("c", 9), write("c", 3, full(1)), discard("c", 0, 9))
	b.check(take("a", 0, 0, 0, 0), take("b", 0, 0, 0, 0), take("c", 0, 0, 0, 0), take("s", 0, 0, 0, 0))
	b.checkTotal(api.Totals{Capacity: 100, Free: 100, Volumes: 3, Snaps: 1})
	b.do(restore("c", "a"))
	b.check(take("a", 0, 0, 0, 0), take("b", 0, 0, 0, 0), take("c", 0, 0, 0, 0), take("s", 0, 0, 0, 0))
	b.checkDeletes()
}

// Logical blocks far apart, of a volume of the greatest size there may be.
func TestP13LogicalBlocksFarApart(t *testing.T) {
	b := made(t, 300, 0)
	b.do(create("a", 262144))
	for i := range 64 {
		b.do(write("a", i*4096+i*65%4096, full(byte(i))))
	}
	b.check(take("a", 64, 129, 193, 0))
	b.do(snap("s", "a"), write("a", 0, full(1)), write("a", 262000, full(2)))
	// At 262000: the last of the root's nodes is copied, and a node of the last level is made.
	b.check(take("a", 65, 130, 7, 188), take("s", 64, 129, 5, 188))
	b.checkTotal(api.Totals{Capacity: 300, Free: 100, Nodes: 134, Data: 66, Volumes: 1, Snaps: 1})
	b.do(discard("s", 1, 262144))
	b.check(take("a", 65, 130, 195, 0), take("s", 1, 3, 4, 0))
	b.checkDeletes()
}
