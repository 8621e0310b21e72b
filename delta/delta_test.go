package delta_test

import (
	"bytes"
	"fmt"
	"slices"
	"strings"
	"testing"

	"cistern/api"
	"cistern/delta"
	"cistern/disk"
	"cistern/pool"
	"cistern/txn"
	"cistern/vol"
)

// full gives a block that is one byte all through.
func full(name byte) []byte { return bytes.Repeat([]byte{name}, 512) }

// lastByte gives a block of zeros but for its last byte.
func lastByte(b byte) []byte { return append(make([]byte, 511), b) }

// noise gives bytes that look like chance and are the same in each run.
func noise(size int, seed uint32) []byte {
	out := make([]byte, size)
	for i := range out {
		seed = seed*1664525 + 1013904223
		out[i] = byte(seed >> 24)
	}
	return out
}

func create(name string, to int) api.Op { return api.Op{Kind: api.OpCreate, Name: name, To: to} }

func snap(name string, other string) api.Op {
	return api.Op{Kind: api.OpSnap, Name: name, Other: other}
}

func clone(name string, other string) api.Op {
	return api.Op{Kind: api.OpClone, Name: name, Other: other}
}

func resize(name string, to int) api.Op { return api.Op{Kind: api.OpResize, Name: name, To: to} }

func rename(name string, other string) api.Op {
	return api.Op{Kind: api.OpRename, Name: name, Other: other}
}

func remove(name string) api.Op { return api.Op{Kind: api.OpDelete, Name: name} }

func restore(name string, other string) api.Op {
	return api.Op{Kind: api.OpRestore, Name: name, Other: other}
}

func write(name string, from int, data []byte) api.Op {
	return api.Op{Kind: api.OpWrite, Name: name, From: from, Data: data}
}

func discard(name string, from int, to int) api.Op {
	return api.Op{Kind: api.OpDiscard, Name: name, From: from, To: to}
}

func fill(name string, from int, to int) api.Op {
	return api.Op{Kind: api.OpFill, Name: name, From: from, To: to}
}

func extend(to int) api.Op { return api.Op{Kind: api.OpExtend, To: to} }

// spans gives ranges by their ends, two by two.
func spans(ends ...int) []api.Range {
	var out []api.Range
	for i := 0; i < len(ends); i += 2 {
		out = append(out, api.Range{From: ends[i], To: ends[i+1]})
	}
	return out
}

// bench is a pool and its disk.
type bench struct {
	t *testing.T
	d *disk.Disk
	p *pool.Pool
}

// made gives a new pool of a capacity, on a disk that holds so many more pool blocks.
func made(t *testing.T, capacity int, more int) *bench {
	t.Helper()
	blocks, e := pool.Needed(capacity + more)
	if e != api.OK {
		t.Fatalf("Needed(%d) = %d", capacity+more, e)
	}
	d, e := disk.New(blocks)
	if e != api.OK {
		t.Fatalf("disk.New(%d) = %d", blocks, e)
	}
	if e := pool.Format(d, capacity); e != api.OK {
		t.Fatalf("Format(d, %d) = %d", capacity, e)
	}
	b := &bench{t: t, d: d}
	b.again()
	return b
}

// again opens the pool anew over the same disk.
func (b *bench) again() {
	b.t.Helper()
	p, e := pool.Open(b.d)
	if e != api.OK {
		b.t.Fatalf("Open(d) = %d", e)
	}
	b.p = p
}

func (b *bench) begin() *txn.Txn {
	b.t.Helper()
	x, e := b.p.Begin()
	if e != api.OK {
		b.t.Fatalf("Begin() = %d", e)
	}
	return x
}

func (b *bench) commit(x *txn.Txn) {
	b.t.Helper()
	if e := x.Commit(); e != api.OK {
		b.t.Fatalf("Commit() = %d", e)
	}
}

// checkClosed holds that no transaction is open.
func (b *bench) checkClosed(what string) {
	b.t.Helper()
	x, e := b.p.Begin()
	if e != api.OK {
		b.t.Fatalf("behind %s Begin() = %d", what, e)
	}
	if e := x.Abort(); e != api.OK {
		b.t.Fatalf("Abort() = %d", e)
	}
}

// darken turns the power off.
func (b *bench) darken() {
	b.t.Helper()
	b.d.Fuse(0)
	if e := b.d.Flush(); e != api.ErrDiskOff {
		b.t.Fatalf("Flush() with a fuse of 0 = %d", e)
	}
}

// image gives all that the disk is seen to hold, and how much of it does not last.
func (b *bench) image() string {
	b.t.Helper()
	pending, e := b.d.Pending()
	if e != api.OK {
		b.t.Fatalf("Pending() = %d", e)
	}
	keep := make([]int, len(pending))
	for i := range keep {
		keep[i] = i
	}
	image, e := b.d.Crash(keep)
	if e != api.OK {
		b.t.Fatalf("Crash = %d", e)
	}
	return string(image) + fmt.Sprint(pending)
}

// state gives all that a call must not change: the disk, and what the pool tells.
func (b *bench) state() string {
	b.t.Helper()
	v, e := vol.View(b.p)
	if e != api.OK {
		b.t.Fatalf("View() = %d", e)
	}
	return fmt.Sprint(v) + b.image()
}

// entry changes what the catalog holds of a volume.
func (b *bench) entry(name string, change func(v *api.Entry)) {
	b.t.Helper()
	x := b.begin()
	v, e := b.p.Catalog().Find(x, name)
	if e != api.OK {
		b.t.Fatalf("Find(t, %q) = %d", name, e)
	}
	change(&v)
	if e := b.p.Catalog().Put(x, v); e != api.OK {
		b.t.Fatalf("Put(t, %v) = %d", v, e)
	}
	b.commit(x)
}

// setPartial says of volumes that they are partial, or whole.
func (b *bench) setPartial(partial bool, names ...string) {
	b.t.Helper()
	for _, name := range names {
		b.entry(name, func(v *api.Entry) { v.Partial = partial })
	}
}

func (b *bench) setSlot(s api.Slot) {
	b.t.Helper()
	x := b.begin()
	if e := b.p.SetSlot(x, s); e != api.OK {
		b.t.Fatalf("SetSlot(t, %v) = %d", s, e)
	}
	b.commit(x)
}

// do does operations that are not refused.
func (b *bench) do(ops ...api.Op) {
	b.t.Helper()
	for _, o := range ops {
		if e := vol.Do(b.p, o); e != api.OK {
			b.t.Fatalf("Do(kind %d, %q, %q, %d, %d) = %d", o.Kind, o.Name, o.Other, o.From, o.To, e)
		}
	}
}

func (b *bench) mapped(name string) []api.Range {
	b.t.Helper()
	ranges, e := vol.Mapped(b.p, name)
	if e != api.OK {
		b.t.Fatalf("Mapped(%q) = %d", name, e)
	}
	return ranges
}

func (b *bench) shared(a string, c string) []api.Range {
	b.t.Helper()
	ranges, e := delta.Shared(b.p, a, c)
	if e != api.OK {
		b.t.Fatalf("Shared(%q, %q) = %d", a, c, e)
	}
	b.checkClosed("Shared")
	return ranges
}

func (b *bench) changed(a string, c string) []api.Range {
	b.t.Helper()
	ranges, e := delta.Changed(b.p, a, c)
	if e != api.OK {
		b.t.Fatalf("Changed(%q, %q) = %d", a, c, e)
	}
	b.checkClosed("Changed")
	return ranges
}

// check holds what both calls tell of two volumes, both ways round.
func (b *bench) check(one string, other string, shared []api.Range, changed []api.Range) {
	b.t.Helper()
	for _, names := range [][2]string{{one, other}, {other, one}} {
		if got := b.shared(names[0], names[1]); !slices.Equal(got, shared) {
			b.t.Errorf("Shared(%q, %q) = %v; want %v", names[0], names[1], got, shared)
		}
		if got := b.changed(names[0], names[1]); !slices.Equal(got, changed) {
			b.t.Errorf("Changed(%q, %q) = %v; want %v", names[0], names[1], got, changed)
		}
	}
}

// refuse holds that both calls answer an error, and nothing beside it.
func refuse(t *testing.T, p *pool.Pool, a string, b string, want api.Errno) {
	t.Helper()
	if ranges, e := delta.Shared(p, a, b); len(ranges) != 0 || e != want {
		t.Errorf("Shared(%q, %q) = %v, %d; want none, %d", a, b, ranges, e, want)
	}
	if ranges, e := delta.Changed(p, a, b); len(ranges) != 0 || e != want {
		t.Errorf("Changed(%q, %q) = %v, %d; want none, %d", a, b, ranges, e, want)
	}
}

func TestP12ExamplesInTheirOrder(t *testing.T) {
	b := made(t, 100, 0)
	b.do(create("a", 300), create("b", 300))
	b.check("a", "b", nil, nil)
	b.do(write("a", 5, full('A')), write("b", 5, full('A')), write("a", 6, full(0)))
	b.check("a", "b", nil, nil)
	b.do(write("a", 7, full('A')), write("a", 8, full('A')))
	b.check("a", "b", nil, spans(7, 9))
	b.do(remove("b"), snap("b", "a"))
	b.check("a", "b", spans(5, 9), nil)
	b.do(write("a", 6, full('A')), discard("a", 8, 9))
	b.check("a", "b", spans(5, 6, 7, 8), spans(6, 7, 8, 9))
	b.do(resize("b", 6))
	b.check("a", "b", spans(5, 6), spans(6, 8))

	if ranges, e := delta.Shared(nil, "", ""); len(ranges) != 0 || e != api.ErrNil {
		t.Errorf("Shared(nil, \"\", \"\") = %v, %d", ranges, e)
	}
	if ranges, e := delta.Shared(b.p, "a", "A"); len(ranges) != 0 || e != api.ErrActName {
		t.Errorf("Shared(p, a, A) = %v, %d", ranges, e)
	}
	if ranges, e := delta.Changed(b.p, "a", "zz"); len(ranges) != 0 || e != api.ErrActUnknown {
		t.Errorf("Changed(p, a, zz) = %v, %d", ranges, e)
	}
}

// used gives a pool with volumes that share: a (with children), s and c of it, e (empty), o (of its own), l (of all sizes the greatest).
func used(t *testing.T) *bench {
	t.Helper()
	b := made(t, 300, 36)
	b.do(create("a", 5000), write("a", 0, full(1)), write("a", 1, full(2)), write("a", 64, full(3)), write("a", 4999, full(4)))
	b.do(snap("s", "a"), write("a", 1, full(5)), clone("c", "a"), write("c", 70, full(6)), discard("c", 0, 1))
	b.do(create("e", 50), create("o", 70), write("o", 1, full(2)), write("o", 64, full(4)), fill("o", 65, 70))
	b.do(create("l", 262144), write("l", 262143, full(9)), write("l", 0, full(1)))
	return b
}

// checkUsed holds what is told of a used pool.
func (b *bench) checkUsed() {
	b.t.Helper()
	b.check("a", "s", spans(0, 1, 64, 65, 4999, 5000), spans(1, 2))
	b.check("a", "c", spans(1, 2, 64, 65, 4999, 5000), spans(0, 1, 70, 71))
	b.check("s", "c", spans(64, 65, 4999, 5000), spans(0, 2, 70, 71))
	b.check("a", "e", nil, spans(0, 2, 64, 65, 4999, 5000))
	b.check("a", "o", nil, spans(0, 2, 64, 65, 4999, 5000))
	b.check("s", "o", nil, spans(0, 1, 64, 65, 4999, 5000))
	b.check("o", "e", nil, spans(1, 2, 64, 65))
	b.check("l", "e", nil, spans(0, 1, 262143, 262144))
	b.check("l", "a", nil, spans(1, 2, 64, 65, 4999, 5000, 262143, 262144))
	b.check("e", "e", nil, nil)
	b.check("c", "c", spans(1, 2, 64, 65, 70, 71, 4999, 5000), nil)
}

func TestP12AUsedPool(t *testing.T) {
	b := used(t)
	b.checkUsed()
	b.again()
	b.checkUsed()
}

// Of one name: what is mapped, and nothing.
func TestP12_1OneNameTwice(t *testing.T) {
	b := used(t)
	for _, name := range []string{"a", "s", "c", "e", "o", "l"} {
		b.check(name, name, b.mapped(name), nil)
	}
}

// The pool blocks are asked, not what they hold: the same bytes in two of them are not shared, zeros in one of them are.
func TestP12_1TheSameBytesAreNotShared(t *testing.T) {
	b := made(t, 100, 0)
	b.do(create("a", 10), create("b", 10), write("a", 1, full(1)), write("b", 1, full(1)), fill("a", 2, 4), fill("b", 2, 4))
	b.check("a", "b", nil, nil)
	b.do(restore("b", "a"))
	b.check("a", "b", spans(1, 4), nil)
	// The same pool block, but at another logical block, is none that they share there.
	b.do(write("b", 1, full(7)), write("b", 2, full(1)))
	b.check("a", "b", spans(3, 4), spans(1, 3))
}

// Each content, and none, on either side: mapped by one alone, by both with the same bytes, with other bytes, with zeros.
func TestP12WhatTwoVolumesHaveAtABlock(t *testing.T) {
	contents := [][]byte{nil, full(0), full(1), full(2), lastByte(1), append([]byte{1}, make([]byte, 511)...)}
	reads := func(data []byte) []byte {
		if data == nil {
			return full(0)
		}
		return data
	}
	for _, l := range []int{0, 1, 63, 64, 4095, 4096, 262143} {
		for i, one := range contents {
			for k, other := range contents {
				b := made(t, 40, 0)
				b.do(create("a", 262144), create("b", 262144), write("a", 9000, full(9)), snap("s", "a"))
				if one != nil {
					b.do(write("a", l, one), write("s", l, one))
				}
				if other != nil {
					b.do(write("b", l, other))
				}
				var want []api.Range
				if !bytes.Equal(reads(one), reads(other)) {
					want = spans(l, l+1)
				}
				beside := append(slices.Clone(want), spans(9000, 9001)...)
				slices.SortFunc(beside, func(x, y api.Range) int { return x.From - y.From })
				b.check("a", "b", nil, beside)
				b.check("a", "s", spans(9000, 9001), nil)
				if t.Failed() {
					t.Fatalf("that was of contents %d and %d at %d", i, k, l)
				}
			}
		}
	}
}

// Every place of a block counts.
func TestP12_2EachByteCounts(t *testing.T) {
	b := made(t, 100, 0)
	b.do(create("a", 10), create("b", 10), create("e", 10), write("a", 3, full(0)), write("b", 3, full(0)))
	for at := range 512 {
		data := full(0)
		data[at] = 128
		b.do(write("a", 3, data))
		b.check("a", "b", nil, spans(3, 4))
		b.check("a", "e", nil, spans(3, 4))
	}
	b.do(write("a", 3, full(0)))
	b.check("a", "b", nil, nil)
	b.check("a", "e", nil, nil)
}

// A block of zeros that is mapped reads like one that is not, at each end and in the midst of what is changed.
func TestP12_2ZerosThatAreMapped(t *testing.T) {
	b := made(t, 200, 0)
	b.do(create("a", 9000), create("b", 9000), fill("a", 60, 70), fill("a", 4090, 4100), write("b", 4095, full(0)))
	b.check("a", "b", nil, nil)
	b.do(write("b", 69, full(1)), write("b", 70, full(1)), write("b", 4089, full(1)), write("b", 4090, full(1)))
	b.check("a", "b", nil, spans(69, 71, 4089, 4091))
	b.do(write("a", 63, full(1)), write("b", 64, full(1)), write("a", 65, full(1)))
	b.check("a", "b", nil, spans(63, 66, 69, 71, 4089, 4091))
	b.do(write("b", 63, full(1)), write("a", 64, full(0)), write("a", 65, full(0)), write("b", 64, full(0)))
	b.check("a", "b", nil, spans(69, 71, 4089, 4091))
}

// Volumes of other sizes: where one ends, the other has blocks that read unlike, or zeros.
func TestP12OtherSizes(t *testing.T) {
	b := made(t, 200, 0)
	b.do(create("a", 1), create("b", 65), create("c", 262144), create("z", 1))
	b.check("a", "z", nil, nil)
	b.check("z", "z", nil, nil)
	b.check("c", "z", nil, nil)
	// One of no blocks cannot be made.
	if e := vol.Do(b.p, create("none", 0)); e != api.ErrActSize {
		t.Errorf("Do(Create, To 0) = %d", e)
	}
	refuse(t, b.p, "none", "c", api.ErrActUnknown)
	for _, name := range []string{"a", "b", "c"} {
		b.do(write(name, 0, full(1)))
	}
	b.do(write("b", 64, full(2)), write("b", 1, full(0)), write("c", 64, full(3)), write("c", 65, full(4)), write("c", 262143, full(5)))
	b.check("a", "b", nil, spans(64, 65))
	b.check("a", "c", nil, spans(64, 66, 262143, 262144))
	b.check("b", "c", nil, spans(64, 66, 262143, 262144))
	for name, want := range map[string][]api.Range{"a": spans(0, 1), "b": spans(0, 1, 64, 65), "c": spans(0, 1, 64, 66, 262143, 262144)} {
		b.check(name, "z", nil, want)
	}
	b.do(snap("s", "c"), resize("s", 66))
	b.check("s", "c", spans(0, 1, 64, 66), spans(262143, 262144))
	b.do(resize("s", 65))
	b.check("s", "c", spans(0, 1, 64, 65), spans(65, 66, 262143, 262144))
	b.do(resize("s", 1))
	b.check("s", "c", spans(0, 1), spans(64, 66, 262143, 262144))
	// What has gone does not come again.
	b.do(resize("s", 262144))
	b.check("s", "c", spans(0, 1), spans(64, 66, 262143, 262144))
	b.do(write("s", 65, full(4)), fill("s", 262143, 262144))
	b.check("s", "c", spans(0, 1), spans(64, 65, 262143, 262144))
	b.check("s", "s", spans(0, 1, 65, 66, 262143, 262144), nil)
}

// No operation leaves blocks mapped at or above a volume's size. Where they are there, both maps have them, and nobody reads them.
func TestP12WhatLiesAboveTheSize(t *testing.T) {
	b := made(t, 200, 0)
	b.do(create("a", 9000), write("a", 5, full(5)), write("a", 70, full(6)), write("a", 8999, full(7)), snap("s", "a"), snap("r", "a"), write("r", 70, full(8)))
	for size, want := range map[int][]api.Range{
		1: spans(5, 6, 70, 71, 8999, 9000), 5: spans(5, 6, 70, 71, 8999, 9000), 6: spans(70, 71, 8999, 9000), 70: spans(70, 71, 8999, 9000),
		71: spans(8999, 9000), 8999: spans(8999, 9000), 9000: nil, 262144: nil,
	} {
		b.entry("s", func(v *api.Entry) { v.Size = size })
		b.check("a", "s", spans(5, 6, 70, 71, 8999, 9000), want)
		b.check("s", "s", spans(5, 6, 70, 71, 8999, 9000), nil)
	}
	b.entry("s", func(v *api.Entry) { v.Size = 70 })
	b.entry("r", func(v *api.Entry) { v.Size = 71 })
	b.check("s", "r", spans(5, 6, 8999, 9000), spans(70, 71))
	b.entry("r", func(v *api.Entry) { v.Size = 70 })
	b.check("s", "r", spans(5, 6, 8999, 9000), nil)
}

// All of a volume of the greatest size there may be: its first and its last block, and those beside the seams of nodes.
func TestP12TheGreatestSize(t *testing.T) {
	b := made(t, 300, 0)
	b.do(create("a", 262144), create("b", 262144))
	b.check("a", "b", nil, nil)
	edges := []int{0, 1, 62, 63, 64, 65, 4031, 4032, 4094, 4095, 4096, 4097, 8191, 8192, 131071, 131072, 258047, 258048, 262079, 262080, 262142, 262143}
	for _, l := range edges {
		b.do(write("a", l, full(1)))
	}
	want := spans(0, 2, 62, 66, 4031, 4033, 4094, 4098, 8191, 8193, 131071, 131073, 258047, 258049, 262079, 262081, 262142, 262144)
	b.check("a", "b", nil, want)
	b.do(snap("s", "a"))
	b.check("a", "s", want, nil)
	b.check("b", "s", nil, want)
	for _, l := range edges {
		b.do(write("s", l, full(byte(1+l%2))))
	}
	b.check("a", "s", nil, spans(1, 2, 63, 64, 65, 66, 4031, 4032, 4095, 4096, 4097, 4098, 8191, 8192, 131071, 131072, 258047, 258048, 262079, 262080, 262143, 262144))
}

// badNames gives names that may not be.
func badNames() []string {
	out := []string{"", strings.Repeat("a", 32), strings.Repeat("a", 300), "A", "1a", "-a", "@", ".", "_", "a b", "a\x00", "é", "a/", "a\n", "aZ"}
	for c := range 256 {
		if !strings.ContainsRune("abcdefghijklmnopqrstuvwxyz~", rune(c)) {
			out = append(out, string([]byte{byte(c)}))
		}
		if !strings.ContainsRune("abcdefghijklmnopqrstuvwxyz~0123456789.-_@", rune(c)) {
			out = append(out, string([]byte{'a', byte(c)}))
		}
	}
	return out
}

func TestP12Names(t *testing.T) {
	longest := strings.Repeat("z", 31)
	b := used(t)
	b.do(create(longest, 3), write(longest, 2, noise(512, 1)), snap("~", longest), snap("a.-_@~9", longest), write("~", 1, full(1)))
	b.check(longest, "~", spans(2, 3), spans(1, 2))
	b.check(longest, "a.-_@~9", spans(2, 3), nil)
	before := b.state()
	for _, bad := range badNames() {
		for _, other := range []string{"a", "zz", bad, "", "l"} {
			refuse(t, b.p, bad, other, api.ErrActName)
			refuse(t, b.p, other, bad, api.ErrActName)
		}
	}
	for _, unknown := range []string{"b", "aa", "~~", strings.Repeat("z", 30), "zz"} {
		for _, other := range []string{"a", unknown, "y", longest} {
			refuse(t, b.p, unknown, other, api.ErrActUnknown)
			refuse(t, b.p, other, unknown, api.ErrActUnknown)
		}
	}
	if b.state() != before {
		t.Errorf("calls that were refused have changed something")
	}
	b.do(rename("o", "n"), remove("e"))
	refuse(t, b.p, "o", "a", api.ErrActUnknown)
	refuse(t, b.p, "a", "e", api.ErrActUnknown)
	b.check("n", longest, nil, spans(1, 3, 64, 65))
}

// A partial volume on either side, or on both; and what comes ahead of it.
func TestP12PartialVolumes(t *testing.T) {
	b := used(t)
	b.setPartial(true, "s", "o")
	before := b.state()
	for _, names := range [][2]string{{"s", "a"}, {"s", "s"}, {"s", "o"}, {"o", "e"}, {"o", "l"}} {
		refuse(t, b.p, names[0], names[1], api.ErrActPartial)
		refuse(t, b.p, names[1], names[0], api.ErrActPartial)
	}
	for _, partial := range []string{"s", "o"} {
		refuse(t, b.p, partial, "zz", api.ErrActUnknown)
		refuse(t, b.p, "zz", partial, api.ErrActUnknown)
		refuse(t, b.p, partial, "Z", api.ErrActName)
		refuse(t, b.p, "Z", partial, api.ErrActName)
	}
	b.check("a", "c", spans(1, 2, 64, 65, 4999, 5000), spans(0, 1, 70, 71))
	if b.state() != before {
		t.Errorf("calls have changed something")
	}
	b.setPartial(false, "s", "o")
	b.checkUsed()
}
