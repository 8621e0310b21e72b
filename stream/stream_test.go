package stream_test

import (
	"bytes"
	"crypto/sha256"
	"encoding/binary"
	"fmt"
	"hash/crc32"
	"slices"
	"testing"

	"cistern/api"
	"cistern/check"
	"cistern/disk"
	"cistern/pool"
	"cistern/stream"
	"cistern/txn"
	"cistern/usage"
	"cistern/vol"
)

// full gives a block that is one byte all through.
func full(name byte) []byte { return bytes.Repeat([]byte{name}, 512) }

// lastByte gives a block of zeros but for its last byte.
func lastByte(b byte) []byte { return append(make([]byte, 511), b) }

// noise gives bytes that look like chance and are the same in each run.
func noise(size int, seed uint32) []byte {
	out := make([]byte, size)
	for i := range out {
		seed = seed*1664525 + 1013904223
		out[i] = byte(seed >> 24)
	}
	return out
}

func create(name string, to int) api.Op { return api.Op{Kind: api.OpCreate, Name: name, To: to} }

func snap(name string, other string) api.Op {
	return api.Op{Kind: api.OpSnap, Name: name, Other: other}
}

func clone(name string, other string) api.Op {
	return api.Op{Kind: api.OpClone, Name: name, Other: other}
}

func resize(name string, to int) api.Op { return api.Op{Kind: api.OpResize, Name: name, To: to} }

func rename(name string, other string) api.Op {
	return api.Op{Kind: api.OpRename, Name: name, Other: other}
}

func remove(name string) api.Op { return api.Op{Kind: api.OpDelete, Name: name} }

func restore(name string, other string) api.Op {
	return api.Op{Kind: api.OpRestore, Name: name, Other: other}
}

func write(name string, from int, data []byte) api.Op {
	return api.Op{Kind: api.OpWrite, Name: name, From: from, Data: data}
}

func discard(name string, from int, to int) api.Op {
	return api.Op{Kind: api.OpDiscard, Name: name, From: from, To: to}
}

func fill(name string, from int, to int) api.Op {
	return api.Op{Kind: api.OpFill, Name: name, From: from, To: to}
}

// spans gives ranges by their ends, two by two.
func spans(ends ...int) []api.Range {
	var out []api.Range
	for i := 0; i < len(ends); i += 2 {
		out = append(out, api.Range{From: ends[i], To: ends[i+1]})
	}
	return out
}

func sumOf(data []byte) uint32 { return crc32.Checksum(data, crc32.MakeTable(crc32.Castagnoli)) }

// piece is a run of a stream: of kind 1 with its blocks, of kind 2 without.
type piece struct {
	kind, from, to int
	blocks         []byte
}

// has is a run of data: so many blocks as there are bytes for.
func has(from int, blocks ...[]byte) piece {
	all := bytes.Join(blocks, nil)
	return piece{kind: 1, from: from, to: from + len(all)/512, blocks: all}
}

func lost(from int, to int) piece { return piece{kind: 2, from: from, to: to} }

func u32(n int) []byte { return binary.LittleEndian.AppendUint32(nil, uint32(n)) }

// sealed gives bytes with their sum behind them.
func sealed(data []byte) []byte { return append(bytes.Clone(data), u32(int(sumOf(data)))...) }

// laid gives the bytes of a stream, as the document lays them, whether it may be or not.
func laid(name string, size int, since string, sum uint32, pieces ...piece) []byte {
	out := []byte("CST1")
	out = append(append(out, byte(len(name))), name...)
	out = append(out, u32(size)...)
	out = append(append(out, byte(len(since))), since...)
	out = append(out, u32(int(sum))...)
	out = append(out, u32(len(pieces))...)
	for _, p := range pieces {
		out = append(out, byte(p.kind))
		out = append(out, u32(p.from)...)
		out = append(out, u32(p.to)...)
		out = append(out, p.blocks...)
	}
	return sealed(out)
}

// bench is a pool and its disk.
type bench struct {
	t *testing.T
	d *disk.Disk
	p *pool.Pool
}

// made gives a new pool of a capacity.
func made(t *testing.T, capacity int) *bench {
	t.Helper()
	blocks, e := pool.Needed(capacity)
	if e != api.OK {
		t.Fatalf("Needed(%d) = %d", capacity, e)
	}
	d, e := disk.New(blocks)
	if e != api.OK {
		t.Fatalf("disk.New(%d) = %d", blocks, e)
	}
	if e := pool.Format(d, capacity); e != api.OK {
		t.Fatalf("Format(d, %d) = %d", capacity, e)
	}
	return found(t, d)
}

// found gives the pool that is found on a disk.
func found(t *testing.T, d *disk.Disk) *bench {
	t.Helper()
	p, e := pool.Open(d)
	if e != api.OK {
		t.Fatalf("Open(d) = %d", e)
	}
	return &bench{t: t, d: d, p: p}
}

// opened gives the pool that is found in an image.
func opened(t *testing.T, image []byte) *bench {
	t.Helper()
	d, e := disk.Open(image)
	if e != api.OK {
		t.Fatalf("disk.Open = %d", e)
	}
	return found(t, d)
}

// twin gives another pool that is as this one.
func (b *bench) twin() *bench {
	b.t.Helper()
	return opened(b.t, b.crashed(firstPlaces(b.pending())))
}

func (b *bench) begin() *txn.Txn {
	b.t.Helper()
	x, e := b.p.Begin()
	if e != api.OK {
		b.t.Fatalf("Begin() = %d", e)
	}
	return x
}

func (b *bench) commit(x *txn.Txn) {
	b.t.Helper()
	if e := x.Commit(); e != api.OK {
		b.t.Fatalf("Commit() = %d", e)
	}
}

func (b *bench) sync() {
	b.t.Helper()
	if e := b.p.Sync(); e != api.OK {
		b.t.Fatalf("Sync() = %d", e)
	}
}

// checkClosed holds that no transaction is open.
func (b *bench) checkClosed(what string) {
	b.t.Helper()
	x, e := b.p.Begin()
	if e != api.OK {
		b.t.Fatalf("behind %s Begin() = %d", what, e)
	}
	if e := x.Abort(); e != api.OK {
		b.t.Fatalf("Abort() = %d", e)
	}
}

// darken turns the power off.
func (b *bench) darken() {
	b.t.Helper()
	b.d.Fuse(0)
	if e := b.d.Flush(); e != api.ErrDiskOff {
		b.t.Fatalf("Flush() with a fuse of 0 = %d", e)
	}
}

func (b *bench) pending() int {
	b.t.Helper()
	pending, e := b.d.Pending()
	if e != api.OK {
		b.t.Fatalf("Pending() = %d", e)
	}
	return len(pending)
}

func firstPlaces(n int) []int {
	places := make([]int, n)
	for i := range places {
		places[i] = i
	}
	return places
}

func (b *bench) crashed(keep []int) []byte {
	b.t.Helper()
	image, e := b.d.Crash(keep)
	if e != api.OK {
		b.t.Fatalf("Crash = %d", e)
	}
	return image
}

// image gives all that the disk is seen to hold, and how much of it does not last.
func (b *bench) image() string {
	b.t.Helper()
	n := b.pending()
	return string(b.crashed(firstPlaces(n))) + fmt.Sprint(n)
}

// entry changes what the catalog holds of a volume.
func (b *bench) entry(name string, change func(v *api.Entry)) {
	b.t.Helper()
	x := b.begin()
	v, e := b.p.Catalog().Find(x, name)
	if e != api.OK {
		b.t.Fatalf("Find(t, %q) = %d", name, e)
	}
	change(&v)
	if e := b.p.Catalog().Put(x, v); e != api.OK {
		b.t.Fatalf("Put(t, %v) = %d", v, e)
	}
	b.commit(x)
}

// setPartial says of volumes that they are partial, or whole.
func (b *bench) setPartial(partial bool, names ...string) {
	b.t.Helper()
	for _, name := range names {
		b.entry(name, func(v *api.Entry) { v.Partial = partial })
	}
}

func (b *bench) setSlot(s api.Slot) {
	b.t.Helper()
	x := b.begin()
	if e := b.p.SetSlot(x, s); e != api.OK {
		b.t.Fatalf("SetSlot(t, %v) = %d", s, e)
	}
	b.commit(x)
}

// running is a program that has not ended.
func running(ops ...api.Op) api.Slot { return api.Slot{State: api.SlotRunning, Ops: ops} }

// do does operations that are not refused.
func (b *bench) do(ops ...api.Op) {
	b.t.Helper()
	for _, o := range ops {
		if e := vol.Do(b.p, o); e != api.OK {
			b.t.Fatalf("Do(kind %d, %q, %q, %d, %d) = %d", o.Kind, o.Name, o.Other, o.From, o.To, e)
		}
	}
}

func (b *bench) view() api.View {
	b.t.Helper()
	v, e := vol.View(b.p)
	if e != api.OK {
		b.t.Fatalf("View() = %d", e)
	}
	return v
}

// volume gives a volume as the view shows it, false: there is none.
func (b *bench) volume(name string) (api.Volume, bool) {
	b.t.Helper()
	volumes := b.view().Volumes
	i := slices.IndexFunc(volumes, func(v api.Volume) bool { return v.Name == name })
	if i < 0 {
		return api.Volume{}, false
	}
	return volumes[i], true
}

func (b *bench) read(name string, l int) []byte {
	b.t.Helper()
	data, e := vol.Read(b.p, name, l)
	if e != api.OK || len(data) != 512 {
		b.t.Fatalf("Read(%q, %d) = %d bytes, %d", name, l, len(data), e)
	}
	return data
}

// tells gives what the pool tells of all volumes but those of some names: all that the view shows, and of what they read the mapped
// blocks. Of Partial ones there is nothing to read.
func (b *bench) tells(but ...string) string {
	b.t.Helper()
	sum := sha256.New()
	var told []api.Volume
	for _, v := range b.view().Volumes {
		if slices.Contains(but, v.Name) {
			continue
		}
		told = append(told, v)
		for _, r := range v.Mapped {
			for l := r.From; l < r.To && !v.Partial; l++ {
				fmt.Fprint(sum, v.Name, l)
				sum.Write(b.read(v.Name, l))
			}
		}
	}
	return fmt.Sprintf("%v %x", told, sum.Sum(nil))
}

// checkFine holds that nothing is found that does not fit, and that all adds up to the capacity.
func (b *bench) checkFine(what string) {
	b.t.Helper()
	if got, e := check.Check(b.p); len(got) != 0 || e != api.OK {
		b.t.Errorf("%s: Check = %v, %d", what, got, e)
	}
	if n, e := usage.Total(b.p); n.Free+n.Nodes+n.Data != n.Capacity || e != api.OK {
		b.t.Errorf("%s: Total = %v, %d", what, n, e)
	}
}

func (b *bench) export(name string, since string) []byte {
	b.t.Helper()
	out, e := stream.Export(b.p, name, since)
	if e != api.OK {
		b.t.Fatalf("Export(%q, %q) = %d", name, since, e)
	}
	b.checkClosed("Export")
	return out
}

// checkExport holds that a volume is exported as these bytes, and that nothing is changed by it.
func (b *bench) checkExport(name string, since string, want []byte) {
	b.t.Helper()
	before := b.image()
	got := b.export(name, since)
	if !bytes.Equal(got, want) {
		b.t.Errorf("Export(%q, %q) = %d bytes, %s; want %d, %s", name, since, len(got), short(got), len(want), short(want))
	}
	if b.image() != before {
		b.t.Errorf("Export(%q, %q) has changed the disk", name, since)
	}
}

// short gives the first bytes of a stream.
func short(data []byte) string { return fmt.Sprintf("%x..", data[:min(len(data), 60)]) }

func (b *bench) checkNoExport(name string, since string, want api.Errno) {
	b.t.Helper()
	out, e := stream.Export(b.p, name, since)
	if len(out) != 0 || e != want {
		b.t.Errorf("Export(%q, %q) = %d bytes, %d; want none, %d", name, since, len(out), e, want)
	}
}

func (b *bench) imports(name string, data []byte) {
	b.t.Helper()
	b.checkImport(name, data, api.OK)
}

func (b *bench) checkImport(name string, data []byte, want api.Errno) {
	b.t.Helper()
	if e := stream.Import(b.p, name, data); e != want {
		b.t.Fatalf("Import(%q, %s) = %d; want %d", name, short(data), e, want)
	}
	b.checkClosed("Import")
}

// checkRefused holds that an Import is refused, and that nothing is changed by it.
func (b *bench) checkRefused(name string, data []byte, want api.Errno) {
	b.t.Helper()
	before := b.image()
	if e := stream.Import(b.p, name, data); e != want {
		b.t.Errorf("Import(%q, %s) = %d; want %d", name, short(data), e, want)
	}
	if b.image() != before {
		b.t.Errorf("Import(%q, ..), which is refused, has changed the disk", name)
	}
}

// checkVolume holds that a volume is as the view shall show it.
func (b *bench) checkVolume(want api.Volume) {
	b.t.Helper()
	if got, ok := b.volume(want.Name); !ok || fmt.Sprint(got) != fmt.Sprint(want) {
		b.t.Errorf("there is %v (there: %v); want %v", got, ok, want)
	}
}

func (b *bench) checkNone(name string) {
	b.t.Helper()
	if got, ok := b.volume(name); ok {
		b.t.Errorf("there is %v; want no volume %q", got, name)
	}
}

// checkRead holds that a volume reads these blocks at these places, and zeros at all others.
func (b *bench) checkRead(name string, blocks map[int][]byte) {
	b.t.Helper()
	v, ok := b.volume(name)
	if !ok {
		b.t.Fatalf("there is no volume %q", name)
	}
	for l := range v.Size {
		want, ok := blocks[l]
		if !ok {
			want = full(0)
		}
		if !bytes.Equal(b.read(name, l), want) {
			b.t.Errorf("Read(%q, %d) gives others than it shall", name, l)
		}
	}
}

func checkLook(t *testing.T, data []byte, want api.StreamHead) {
	t.Helper()
	if h, e := stream.Look(data); h != want || e != api.OK {
		t.Errorf("Look(%s) = %v, %d; want %v", short(data), h, e, want)
	}
}

func checkNoLook(t *testing.T, data []byte, want api.Errno) {
	t.Helper()
	if h, e := stream.Look(data); h != (api.StreamHead{}) || e != want {
		t.Errorf("Look(%s) of %d bytes = %v, %d; want nothing, %d", short(data), len(data), h, e, want)
	}
}

// sample is the document's pool.
func sample(t *testing.T) *bench {
	t.Helper()
	b := made(t, 100)
	b.do(create("a", 9), write("a", 2, full(7)), write("a", 3, full(0)))
	return b
}

// The document's examples, one behind the other.
func TestP15ExamplesInTheirOrder(t *testing.T) {
	b := sample(t)
	whole := []byte{0x43, 0x53, 0x54, 0x31, 0x01, 0x61, 0x09, 0, 0, 0, 0, 0, 0, 0, 0, 1, 0, 0, 0, 1, 2, 0, 0, 0, 4, 0, 0, 0}
	whole = sealed(append(append(whole, full(7)...), full(0)...))
	if len(whole) != 1056 {
		t.Fatalf("the example's stream has %d bytes", len(whole))
	}
	b.checkExport("a", "", whole)
	checkLook(t, whole, api.StreamHead{Name: "a", Size: 9, Ranges: 1, Blocks: 2})
	checkNoLook(t, whole[:1055], api.ErrStreamSum)
	checkNoLook(t, whole[:3], api.ErrStreamForm)
	checkNoLook(t, []byte{0x43, 0x53, 0x54, 0x31}, api.ErrStreamSum)

	b.do(snap("s", "a"), write("a", 3, full(7)), discard("a", 2, 3), write("a", 5, full(7)))
	sum := sumOf(slices.Concat([]byte{2, 0, 0, 0}, full(7), []byte{3, 0, 0, 0}, full(0)))
	head := []byte{0x43, 0x53, 0x54, 0x31, 1, 0x61, 9, 0, 0, 0, 1, 0x73, byte(sum), byte(sum >> 8), byte(sum >> 16), byte(sum >> 24), 3, 0, 0, 0}
	that := sealed(slices.Concat(head,
		[]byte{2, 2, 0, 0, 0, 3, 0, 0, 0},
		[]byte{1, 3, 0, 0, 0, 4, 0, 0, 0}, full(7),
		[]byte{1, 5, 0, 0, 0, 6, 0, 0, 0}, full(7)))
	b.checkExport("a", "s", that)
	b.imports("b", that)
	b.checkVolume(api.Volume{Name: "b", ID: 3, Size: 9, Origin: 2, Mapped: spans(3, 4, 5, 6)})
	b.checkRefused("a", that, api.ErrStreamTaken)
	b.checkRefused("A", that, api.ErrActName)
	b.do(write("s", 2, full(8)))
	b.checkRefused("c", that, api.ErrStreamBase)
	b.checkExport("a", "a", laid("a", 9, "a", sumOf(slices.Concat(u32(3), full(7), u32(5), full(7)))))
	b.do(create("t", 10))
	b.checkNoExport("a", "t", api.ErrStreamSince)
	b.checkNoExport("zz", "", api.ErrActUnknown)
	small := made(t, 4)
	small.checkImport("a", whole, api.ErrSpaceFull)
	if v := small.view(); v.Free != 4 || v.Next != 2 || len(v.Volumes) != 0 {
		t.Errorf("behind an Import for which there is no room: %v", v)
	}
	b.checkFine("behind the examples")
}
