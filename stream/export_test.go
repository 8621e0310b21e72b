package stream_test

import (
	"bytes"
	"fmt"
	"testing"

	"cistern/api"
	"cistern/stream"
	"cistern/vol"
)

// contents gives what a volume has mapped, by its logical blocks, as View and Read tell it.
func (b *bench) contents(name string) map[int][]byte {
	b.t.Helper()
	v, ok := b.volume(name)
	if !ok {
		b.t.Fatalf("there is no volume %q", name)
	}
	blocks := map[int][]byte{}
	for _, r := range v.Mapped {
		for l := r.From; l < r.To; l++ {
			blocks[l] = b.read(name, l)
		}
	}
	return blocks
}

// sumOfBlocks gives the sum of a volume of a size.
func sumOfBlocks(size int, blocks map[int][]byte) uint32 {
	var all []byte
	for l := range size {
		if data, ok := blocks[l]; ok {
			all = append(append(all, u32(l)...), data...)
		}
	}
	return sumOf(all)
}

// pieces gives the runs of a volume of a size over a base, block by block; nil: over none.
func pieces(size int, blocks map[int][]byte, base map[int][]byte) []piece {
	var out []piece
	for l := range size {
		mine, isMine := blocks[l]
		below, isBelow := base[l]
		kind := 0
		switch {
		case isMine && (!isBelow || !bytes.Equal(mine, below)):
			kind = 1
		case isBelow && !isMine:
			kind = 2
		default:
			continue
		}
		if n := len(out); n == 0 || out[n-1].kind != kind || out[n-1].to != l {
			out = append(out, piece{kind: kind, from: l, to: l})
		}
		last := &out[len(out)-1]
		last.to++
		if kind == 1 {
			last.blocks = append(last.blocks, mine...)
		}
	}
	return out
}

// expected gives the stream of a volume by what View and Read tell of it and of the base.
func (b *bench) expected(name string, since string) []byte {
	b.t.Helper()
	v, _ := b.volume(name)
	blocks := b.contents(name)
	if since == "" {
		return laid(name, v.Size, "", 0, pieces(v.Size, blocks, nil)...)
	}
	base := b.contents(since)
	return laid(name, v.Size, since, sumOfBlocks(v.Size, base), pieces(v.Size, blocks, base)...)
}

func TestP15_1NothingMapped(t *testing.T) {
	b := made(t, 20)
	b.do(create("a", 1), create("long-name.of_31@bytes~012345678", 262144))
	b.checkExport("a", "", laid("a", 1, "", 0))
	b.checkExport("long-name.of_31@bytes~012345678", "", laid("long-name.of_31@bytes~012345678", 262144, "", 0))
	b.do(write("a", 0, full(1)), discard("a", 0, 1))
	b.checkExport("a", "", laid("a", 1, "", 0))
}

func TestP15_1OneRunAndMany(t *testing.T) {
	b := made(t, 200)
	b.do(create("a", 300))
	b.do(write("a", 10, full(10)))
	b.checkExport("a", "", laid("a", 300, "", 0, has(10, full(10))))
	b.do(write("a", 12, full(12)))
	b.checkExport("a", "", laid("a", 300, "", 0, has(10, full(10)), has(12, full(12))))
	b.do(write("a", 11, full(11)))
	b.checkExport("a", "", laid("a", 300, "", 0, has(10, full(10), full(11), full(12))))
	b.do(discard("a", 11, 12), write("a", 299, full(99)), write("a", 0, full(1)))
	var runs []piece
	runs = append(runs, has(0, full(1)), has(10, full(10)), has(12, full(12)))
	for l := 20; l < 100; l += 2 {
		data := noise(512, uint32(l))
		b.do(write("a", l, data))
		runs = append(runs, has(l, data))
	}
	b.checkExport("a", "", laid("a", 300, "", 0, append(runs, has(299, full(99)))...))
}

// A run goes on over the ends of the map's nodes.
func TestP15_1RunsOverTheEndsOfNodes(t *testing.T) {
	b := made(t, 60)
	b.do(create("a", 262144))
	for _, end := range []int{64, 4096, 131072} {
		b.do(write("a", end-1, full(1)), write("a", end, full(2)))
	}
	b.checkExport("a", "", laid("a", 262144, "", 0, has(63, full(1), full(2)), has(4095, full(1), full(2)), has(131071, full(1), full(2))))
}

// Blocks of zeros that were written, or filled, are mapped: they are data.
func TestP15_1Zeros(t *testing.T) {
	b := made(t, 60)
	b.do(create("a", 40), write("a", 3, full(0)), fill("a", 5, 7), write("a", 6, full(6)))
	b.checkExport("a", "", laid("a", 40, "", 0, has(3, full(0)), has(5, full(0), full(6))))
	b.do(create("e", 40))
	zeros := sumOf(bytes.Join([][]byte{u32(3), full(0), u32(5), full(0), u32(6), full(6)}, nil))
	b.checkExport("a", "e", laid("a", 40, "e", 0, has(3, full(0)), has(5, full(0), full(6))))
	b.checkExport("e", "a", laid("e", 40, "a", zeros, lost(3, 4), lost(5, 7)))
}

// The first and the last logical block that there can be.
func TestP15_1TheEdges(t *testing.T) {
	b := made(t, 60)
	b.do(create("a", 262144), write("a", 0, full(1)), write("a", 262143, full(2)), snap("s", "a"))
	sum := sumOf(bytes.Join([][]byte{u32(0), full(1), u32(262143), full(2)}, nil))
	b.checkExport("a", "", laid("a", 262144, "", 0, has(0, full(1)), has(262143, full(2))))
	b.do(discard("a", 0, 1), write("a", 262143, full(3)))
	b.checkExport("a", "s", laid("a", 262144, "s", sum, lost(0, 1), has(262143, full(3))))
	b.do(discard("a", 0, 262144))
	b.checkExport("a", "s", laid("a", 262144, "s", sum, lost(0, 1), lost(262143, 262144)))
	b.do(create("one", 1), write("one", 0, full(9)))
	b.checkExport("one", "", laid("one", 1, "", 0, has(0, full(9))))
}

// Snapshots and clones are exported as volumes are: of kind and origin a stream says nothing.
func TestP15_1SnapshotsAndClones(t *testing.T) {
	b := sample(t)
	b.do(snap("s", "a"), clone("c", "s"), write("c", 8, full(8)), write("a", 2, full(9)))
	b.checkExport("s", "", laid("s", 9, "", 0, has(2, full(7), full(0))))
	b.checkExport("c", "", laid("c", 9, "", 0, has(2, full(7), full(0)), has(8, full(8))))
	b.checkExport("a", "", laid("a", 9, "", 0, has(2, full(9), full(0))))
	sumOfS := sumOf(bytes.Join([][]byte{u32(2), full(7), u32(3), full(0)}, nil))
	sumOfC := sumOf(bytes.Join([][]byte{u32(2), full(7), u32(3), full(0), u32(8), full(8)}, nil))
	b.checkExport("c", "s", laid("c", 9, "s", sumOfS, has(8, full(8))))
	b.checkExport("s", "c", laid("s", 9, "c", sumOfC, lost(8, 9)))
	b.checkExport("a", "c", laid("a", 9, "c", sumOfC, has(2, full(9)), lost(8, 9)))
}

// A base that shares all, some or none of the pool blocks; one that reads the same at others. Which ones they are says nothing.
func TestP15_1WhatTheBaseShares(t *testing.T) {
	b := made(t, 100)
	one, two, three := noise(512, 1), noise(512, 2), noise(512, 3)
	b.do(create("a", 70), write("a", 0, one), write("a", 1, two), write("a", 65, three))
	b.do(snap("all", "a"), snap("some", "a"), create("none", 70), create("other", 70))
	b.do(write("none", 0, one), write("none", 1, two), write("none", 65, three))
	b.do(write("some", 1, two), discard("some", 65, 66), write("some", 65, three))
	b.do(write("other", 0, three), write("other", 64, one))
	sum := sumOf(bytes.Join([][]byte{u32(0), one, u32(1), two, u32(65), three}, nil))
	for _, base := range []string{"all", "some", "none", "a"} {
		b.checkExport("a", base, laid("a", 70, base, sum))
		b.checkExport(base, "a", laid(base, 70, "a", sum))
	}
	sumOfOther := sumOf(bytes.Join([][]byte{u32(0), three, u32(64), one}, nil))
	b.checkExport("a", "other", laid("a", 70, "other", sumOfOther, has(0, one, two), lost(64, 65), has(65, three)))
	b.checkExport("other", "a", laid("other", 70, "a", sum, has(0, three), lost(1, 2), has(64, one), lost(65, 66)))
	b.do(discard("a", 0, 70))
	b.checkExport("a", "all", laid("a", 70, "all", sum, lost(0, 2), lost(65, 66)))
	b.checkExport("a", "a", laid("a", 70, "a", 0))
}

// Each byte of a block counts, the first and the last too.
func TestP15_1EachByteCounts(t *testing.T) {
	b := made(t, 60)
	b.do(create("a", 5), write("a", 2, full(7)), snap("s", "a"))
	sum := sumOf(append(u32(2), full(7)...))
	for _, place := range []int{0, 1, 255, 256, 510, 511} {
		data := full(7)
		data[place] ^= 1
		b.do(write("a", 2, data))
		b.checkExport("a", "s", laid("a", 5, "s", sum, has(2, data)))
	}
	b.do(write("a", 2, full(7)))
	b.checkExport("a", "s", laid("a", 5, "s", sum))
}

// What the two have at three blocks that stand beside one another, all of it: runs are as long as can be, and no longer.
func TestP15_1WhatStandsBesideWhat(t *testing.T) {
	const states = 6
	b := made(t, 60)
	b.do(create("a", 8), create("b", 8))
	for n := range states * states * states {
		b.do(discard("a", 0, 8), discard("b", 0, 8))
		for place, state := range []int{n % states, n / states % states, n / states / states} {
			switch state {
			case 0:
			case 1:
				b.do(write("a", place+2, full(1)))
			case 2:
				b.do(write("b", place+2, full(1)))
			case 3:
				b.do(write("a", place+2, full(1)), write("b", place+2, full(1)))
			case 4:
				b.do(write("a", place+2, full(1)), write("b", place+2, full(2)))
			case 5:
				b.do(write("a", place+2, full(0)))
			}
		}
		b.checkExport("a", "b", b.expected("a", "b"))
		b.checkExport("b", "a", b.expected("b", "a"))
		b.checkExport("a", "", b.expected("a", ""))
	}
}

// The sum of a base is that of what it has mapped, zeros too, with their numbers: not of what it reads.
func TestP15_1TheSumOfABase(t *testing.T) {
	b := made(t, 100)
	b.do(create("a", 300), create("e", 300), create("z", 300), create("o", 300))
	b.do(write("z", 0, full(0)), write("o", 1, full(0)))
	for base, sum := range map[string]uint32{"e": 0, "z": sumOf(append(u32(0), full(0)...)), "o": sumOf(append(u32(1), full(0)...))} {
		got := b.export("a", base)
		if h, e := stream.Look(got); h.Since != base || e != api.OK {
			t.Errorf("Look of Export(a, %q) = %v, %d", base, h, e)
		}
		if at := 4 + 2 + 4 + 2; !bytes.Equal(got[at:at+4], u32(int(sum))) {
			t.Errorf("Export(a, %q) tells %x as the base's sum; want %08x", base, got[at:at+4], sum)
		}
	}
	b.do(write("e", 258, full(3)))
	b.checkExport("a", "e", laid("a", 300, "e", sumOf(append([]byte{2, 1, 0, 0}, full(3)...)), lost(258, 259)))
}

// Names, Partial volumes and sizes that are refused, each over what is refused behind it.
func TestP15_1Refused(t *testing.T) {
	b := sample(t)
	b.do(create("p", 9), create("q", 10), create("t", 10), write("p", 1, full(1)))
	b.setPartial(true, "p", "q")
	before := b.image()
	for _, bad := range []string{"A", "-a", "0", "a b", "\xff", "a\x00", "abcdefghijklmnopqrstuvwxyz0123456"} {
		for _, other := range []string{"", "a", "zz", "p", "t", "A"} {
			b.checkNoExport(bad, other, api.ErrActName)
			b.checkNoExport(other, bad, api.ErrActName)
		}
	}
	for _, since := range []string{"", "a", "zz", "p", "q", "t"} {
		b.checkNoExport("", since, api.ErrActName)
		b.checkNoExport("zz", since, api.ErrActUnknown)
		if since != "" {
			b.checkNoExport(since, "zz", api.ErrActUnknown)
		}
		if since != "zz" {
			b.checkNoExport("p", since, api.ErrActPartial)
			b.checkNoExport("q", since, api.ErrActPartial)
		}
	}
	for _, name := range []string{"a", "t", "p", "q"} {
		b.checkNoExport(name, "p", api.ErrActPartial)
		b.checkNoExport(name, "q", api.ErrActPartial)
	}
	b.checkNoExport("a", "t", api.ErrStreamSince)
	b.checkNoExport("t", "a", api.ErrStreamSince)
	b.checkClosed("refused calls")
	if b.image() != before {
		t.Errorf("calls that were refused have changed the disk")
	}
	b.setPartial(false, "p")
	b.checkExport("p", "a", b.expected("p", "a"))
}

// A program that is running, or has ended, is no hindrance.
func TestP15_1WhileAProgramIsRunning(t *testing.T) {
	for _, s := range []api.Slot{
		running(remove("a")),
		{State: api.SlotRunning, Counter: 1, Ops: []api.Op{remove("s"), remove("a")}},
		{State: api.SlotDone, Counter: 1, Ops: []api.Op{remove("s")}},
		{State: api.SlotAborted, Code: 64, Ops: []api.Op{remove("s")}},
	} {
		b := sample(t)
		b.do(snap("s", "a"), write("a", 4, full(4)))
		whole, over := b.expected("a", ""), b.expected("a", "s")
		b.setSlot(s)
		b.checkExport("a", "", whole)
		b.checkExport("a", "s", over)
		b.checkNoExport("A", "", api.ErrActName)
		b.checkNoExport("zz", "", api.ErrActUnknown)
		x := b.begin()
		if got, e := b.p.Slot(x); fmt.Sprint(got) != fmt.Sprint(s) || e != api.OK {
			t.Errorf("behind Export Slot() = %v, %d; want %v", got, e, s)
		}
		x.Abort()
	}
}

// What was committed last is told, whether it lasts or not; what was given up is not.
func TestP15_1WhatIsCommittedIsTold(t *testing.T) {
	b := sample(t)
	b.sync()
	b.do(write("a", 8, full(8)))
	x := b.begin()
	v, _ := b.p.Catalog().Find(x, "a")
	v.Size = 20
	b.p.Catalog().Put(x, v)
	x.Abort()
	b.checkExport("a", "", laid("a", 9, "", 0, has(2, full(7), full(0)), has(8, full(8))))
}

// What lies at or above a size is no part of a volume: such a stream could not be.
func TestP15_1WhatLiesAboveTheSize(t *testing.T) {
	b := sample(t)
	b.do(snap("s", "a"), write("s", 3, full(1)))
	for _, name := range []string{"a", "s"} {
		b.entry(name, func(v *api.Entry) { v.Size = 3 })
	}
	b.checkExport("a", "", laid("a", 3, "", 0, has(2, full(7))))
	b.checkExport("a", "s", laid("a", 3, "s", sumOf(append(u32(2), full(7)...))))
}

// Volumes of many thousands of blocks, with every second block changed.
func TestP15_1GreatVolumes(t *testing.T) {
	b := made(t, 30000)
	b.do(create("a", 262144))
	for l := 100000; l < 108192; l += 32 {
		b.do(fill("a", l, l+32))
	}
	b.do(snap("s", "a"))
	want := []piece{}
	for l := 100000; l < 104000; l += 2 {
		if e := vol.Do(b.p, write("s", l, full(byte(l)))); e != api.OK {
			t.Fatalf("Write at %d = %d", l, e)
		}
		if byte(l) != 0 {
			want = append(want, has(l, full(byte(l))))
		}
	}
	zeros := make([]byte, 512)
	var base []byte
	for l := 100000; l < 108192; l++ {
		base = append(append(base, u32(l)...), zeros...)
	}
	b.checkExport("s", "a", laid("s", 262144, "a", sumOf(base), want...))
	b.checkExport("a", "", laid("a", 262144, "", 0, has(100000, make([]byte, 512*8192))))
}
