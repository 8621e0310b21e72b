package stream_test

import (
	"bytes"
	"fmt"
	"testing"

	"cistern/api"
	"cistern/stream"
	"cistern/vol"
)

// A whole stream into another pool, and into the one that it came from.
func TestP15_3AWholeStream(t *testing.T) {
	b := made(t, 100)
	one, two := noise(512, 1), noise(512, 2)
	b.do(create("x", 3), create("a", 300), write("a", 0, one), write("a", 64, full(0)), write("a", 65, two), write("a", 299, lastByte(1)))
	data := b.export("a", "")
	blocks := map[int][]byte{0: one, 64: full(0), 65: two, 299: lastByte(1)}
	other := made(t, 50)
	other.do(create("y", 3), write("y", 2, full(9)))
	for name, x := range map[string]*bench{"b": b, "a": other} {
		before, was := x.tells(), x.view()
		x.imports(name, data)
		x.checkVolume(api.Volume{Name: name, ID: was.Next, Size: 300, Mapped: spans(0, 1, 64, 66, 299, 300)})
		x.checkRead(name, blocks)
		if after := x.tells(name); after != before {
			t.Errorf("Import has changed other volumes from %s to %s", before, after)
		}
		now := x.view()
		if now.Next != was.Next+1 || now.Capacity != was.Capacity || now.Free != was.Free-9 {
			t.Errorf("behind Import: next %d, capacity %d, free %d; ahead of it %d, %d, %d", now.Next, now.Capacity, now.Free, was.Next, was.Capacity, was.Free)
		}
		x.checkFine("behind Import")
		x.checkExport(name, "", laid(name, 300, "", 0, pieces(300, blocks, nil)...))
	}
	// Of one name the bytes are the same.
	other.checkExport("a", "", data)
	b.do(remove("a"))
	b.imports("a", data)
	b.checkExport("a", "", data)
}

// Streams of snapshots and clones make volumes that come from none.
func TestP15_3KindAndOriginOfAWholeStream(t *testing.T) {
	b := sample(t)
	b.do(snap("s", "a"), clone("c", "s"))
	for i, name := range []string{"s", "c"} {
		b.imports("new-"+name, b.export(name, ""))
		b.checkVolume(api.Volume{Name: "new-" + name, ID: 4 + i, Size: 9, Mapped: spans(2, 4)})
	}
	b.do(remove("new-s"), remove("new-c"))
	b.checkFine("behind it")
}

// Of a stream that no pool has exported: what it says is what is made.
func TestP15_3WhatTheStreamSays(t *testing.T) {
	for what, data := range streams() {
		h, e := stream.Look(data)
		if e != api.OK || h.Since != "" {
			continue
		}
		b := made(t, 40)
		b.imports("n", data)
		v, _ := b.volume("n")
		count := 0
		for _, r := range v.Mapped {
			count += r.To - r.From
		}
		if v.Size != h.Size || len(v.Mapped) != h.Ranges || count != h.Blocks || v.ID != 1 || v.Origin != 0 || v.Kind != api.KindVolume || v.Partial {
			t.Errorf("of a stream of %s, %v, there is %v", what, h, v)
		}
		b.checkFine(what)
	}
}

// An increment into the pool that it came from: a clone of the base, changed.
func TestP15_3AnIncrement(t *testing.T) {
	b := made(t, 200)
	b.do(create("x", 9), create("a", 300))
	for l := range 10 {
		b.do(write("a", l*20, full(byte(l+1))))
	}
	b.do(snap("s", "a"), write("a", 20, full(77)), write("a", 21, full(78)), discard("a", 39, 101), write("a", 299, full(0)), write("a", 0, full(1)))
	data, before, was := b.export("a", "s"), b.tells(), b.view()
	b.imports("b", data)
	b.checkVolume(api.Volume{Name: "b", ID: 4, Size: 300, Origin: 3, Mapped: spans(0, 1, 20, 22, 120, 121, 140, 141, 160, 161, 180, 181, 299, 300)})
	b.checkRead("b", b.contents("a"))
	if after := b.tells("b"); after != before {
		t.Errorf("Import has changed other volumes from %s to %s", before, after)
	}
	if now := b.view(); now.Next != was.Next+1 {
		t.Errorf("the next ID is %d; want %d", now.Next, was.Next+1)
	}
	b.checkFine("behind Import")
	b.checkExport("b", "a", laid("b", 300, "a", sumOfBlocks(300, b.contents("a"))))
	b.checkExport("b", "s", laid("b", 300, "s", sumOfBlocks(300, b.contents("s")), pieces(300, b.contents("a"), b.contents("s"))...))
	if e := vol.Do(b.p, remove("s")); e != api.ErrActChildren {
		t.Errorf("Do(remove s), from which b comes, = %d", e)
	}
	// The same bytes where the name is the same.
	b.do(rename("a", "old"), rename("b", "a"))
	b.checkExport("a", "s", data)
}

// An increment into another pool that has got the base by a whole stream. There it is of other pool blocks, kind and number.
func TestP15_3AnIncrementIntoAnotherPool(t *testing.T) {
	b, other := made(t, 100), made(t, 100)
	b.do(create("a", 70), write("a", 3, full(3)), write("a", 64, full(64)), snap("s", "a"))
	base := b.export("s", "")
	b.do(write("a", 3, full(4)), discard("a", 64, 65), write("a", 69, full(69)))
	data := b.export("a", "s")
	other.do(create("z", 1), create("y", 1), remove("z"))
	other.checkRefused("a", data, api.ErrStreamBase)
	other.imports("s", base)
	other.checkVolume(api.Volume{Name: "s", ID: 3, Size: 70, Mapped: spans(3, 4, 64, 65)})
	other.imports("a", data)
	other.checkVolume(api.Volume{Name: "a", ID: 4, Size: 70, Origin: 3, Mapped: spans(3, 4, 69, 70)})
	other.checkRead("a", map[int][]byte{3: full(4), 69: full(69)})
	other.checkRead("s", map[int][]byte{3: full(3), 64: full(64)})
	other.checkExport("a", "s", data)
	other.checkExport("s", "", base)
	other.checkFine("behind both")
	// And on to the next one, over the first.
	b.do(snap("s2", "a"), write("a", 0, full(100)))
	other.do(rename("a", "s2"))
	next := b.export("a", "s2")
	other.imports("a", next)
	other.checkRead("a", map[int][]byte{0: full(100), 3: full(4), 69: full(69)})
	other.checkExport("a", "s2", next)
}

// A stream without runs makes the base once more.
func TestP15_3WithoutRuns(t *testing.T) {
	b := sample(t)
	b.do(snap("s", "a"))
	was := b.view()
	b.imports("b", b.export("a", "s"))
	b.imports("c", b.export("a", "a"))
	b.checkVolume(api.Volume{Name: "b", ID: 3, Size: 9, Origin: 2, Mapped: spans(2, 4)})
	b.checkVolume(api.Volume{Name: "c", ID: 4, Size: 9, Origin: 1, Mapped: spans(2, 4)})
	b.checkRead("c", map[int][]byte{2: full(7)})
	if now := b.view(); now.Free != was.Free {
		t.Errorf("%d pool blocks are free; want %d: all is shared", now.Free, was.Free)
	}
	b.imports("e", laid("e", 262144, "", 0))
	b.checkVolume(api.Volume{Name: "e", ID: 5, Size: 262144})
	b.checkFine("behind them")
}

// Blocks of the base that are written as they were, and ranges that are gone where nothing was: what the stream has is done.
func TestP15_4StreamsThatAreNotTheShortest(t *testing.T) {
	b := sample(t)
	sum := sumOfBlocks(9, b.contents("a"))
	b.imports("b", laid("x", 9, "a", sum, lost(0, 2), has(2, full(7)), lost(4, 9)))
	b.checkVolume(api.Volume{Name: "b", ID: 2, Size: 9, Origin: 1, Mapped: spans(2, 4)})
	b.checkRead("b", map[int][]byte{2: full(7)})
	b.imports("c", laid("x", 9, "a", sum, lost(0, 9)))
	b.checkVolume(api.Volume{Name: "c", ID: 3, Size: 9, Origin: 1})
	b.checkFine("behind them")
}

// The base as it is known by its name, size and sum: another volume that has them does as well.
func TestP15_3AnotherBaseThatIsTheSame(t *testing.T) {
	b := sample(t)
	b.do(snap("s", "a"), write("a", 8, full(8)))
	data := b.export("a", "s")
	b.do(remove("s"), create("s", 9), write("s", 3, full(0)), write("s", 2, full(7)))
	b.imports("b", data)
	b.checkVolume(api.Volume{Name: "b", ID: 4, Size: 9, Origin: 3, Mapped: spans(2, 4, 8, 9)})
	b.checkRead("b", map[int][]byte{2: full(7), 8: full(8)})
}

// A base that is not there, is Partial, or is another; what is behind the names says which.
func TestP15_3Bases(t *testing.T) {
	b := sample(t)
	b.do(snap("s", "a"), write("a", 8, full(8)), create("o", 9))
	data := b.export("a", "s")
	b.checkRefused("n", laid("a", 9, "zz", 0), api.ErrStreamBase)
	for what, ops := range map[string][2][]api.Op{
		"another byte":              {{write("s", 2, full(8))}, {write("s", 2, full(7))}},
		"the last byte of a block":  {{write("s", 3, lastByte(1))}, {write("s", 3, full(0))}},
		"a block of zeros more":     {{write("s", 4, full(0))}, {discard("s", 4, 5)}},
		"a block of zeros less":     {{discard("s", 3, 4)}, {fill("s", 3, 4)}},
		"a block that is elsewhere": {{discard("s", 3, 4), write("s", 4, full(0))}, {discard("s", 4, 5), write("s", 3, full(0))}},
		"nothing":                   {{discard("s", 0, 9)}, {write("s", 2, full(7)), write("s", 3, full(0))}},
		"greater":                   {{resize("s", 10)}, {resize("s", 9)}},
		"smaller":                   {{resize("s", 8)}, {resize("s", 9)}},
		"of another name":           {{rename("s", "t")}, {rename("t", "s")}},
		"another volume":            {{rename("s", "t"), rename("o", "s")}, {rename("s", "o"), rename("t", "s")}},
	} {
		b.do(ops[0]...)
		b.checkRefused("n", data, api.ErrStreamBase)
		b.do(ops[1]...)
		before := b.tells()
		if e := stream.Import(b.p, "n", data); e != api.OK {
			t.Errorf("Import over a base that was %s, and is as it was, = %d", what, e)
		}
		b.checkRead("n", map[int][]byte{2: full(7), 8: full(8)})
		b.do(remove("n"))
		if b.tells() != before {
			t.Errorf("Import over a base that was %s changes others", what)
		}
	}
	b.setPartial(true, "s")
	b.checkRefused("n", data, api.ErrStreamBase)
	b.setPartial(false, "s")
	b.imports("n", data)
	b.checkFine("behind it")
}

func TestP15_3NamesThatAreTaken(t *testing.T) {
	b := sample(t)
	b.do(snap("s", "a"), clone("c", "a"))
	data := b.export("a", "")
	for _, name := range []string{"a", "s", "c"} {
		b.checkRefused(name, data, api.ErrStreamTaken)
		b.checkRefused(name, b.export("c", "s"), api.ErrStreamTaken)
	}
	for _, name := range []string{"", "A", "0a", "-", "a b", "\xff", "abcdefghijklmnopqrstuvwxyz012345"} {
		b.checkRefused(name, data, api.ErrActName)
	}
	for i, name := range []string{"~", "abcdefghijklmnopqrstuvwxyz01234", "a0.-_@~"} {
		b.imports(name, data)
		b.checkVolume(api.Volume{Name: name, ID: 4 + i, Size: 9, Mapped: spans(2, 4)})
	}
}

// A volume that is Partial is deleted, and what it had is free for the new one; the new one has a new number.
func TestP15_3APartialVolume(t *testing.T) {
	b := made(t, 14)
	b.do(create("o", 2), write("o", 1, full(9)), create("a", 9), write("a", 2, full(1)), write("a", 8, full(2)))
	b.setPartial(true, "a")
	before := b.tells("a")
	data := laid("x", 70, "", 0, has(0, full(1)), has(64, full(2), full(3), full(4)))
	b.imports("a", data)
	b.checkVolume(api.Volume{Name: "a", ID: 3, Size: 70, Mapped: spans(0, 1, 64, 67)})
	b.checkRead("a", map[int][]byte{0: full(1), 64: full(2), 65: full(3), 66: full(4)})
	if after := b.tells("a"); after != before {
		t.Errorf("Import has changed other volumes from %s to %s", before, after)
	}
	if v := b.view(); v.Free != 2 || v.Next != 4 {
		t.Errorf("behind it %d are free, the next ID is %d; want 2, 4", v.Free, v.Next)
	}
	b.checkFine("behind it")
}

// A Partial clone of the base: the base's own blocks stay.
func TestP15_3APartialClone(t *testing.T) {
	b := sample(t)
	b.do(snap("s", "a"), write("a", 8, full(8)))
	data := b.export("a", "s")
	b.do(clone("n", "s"), write("n", 2, full(55)))
	b.setPartial(true, "n")
	b.imports("n", data)
	b.checkVolume(api.Volume{Name: "n", ID: 4, Size: 9, Origin: 2, Mapped: spans(2, 4, 8, 9)})
	b.checkRead("n", b.contents("a"))
	b.checkRead("s", map[int][]byte{2: full(7)})
	b.checkFine("behind it")
}

// One that others come from (which no call of these layers makes) cannot be deleted: that is told, and nothing is changed.
func TestP15_3APartialVolumeWithChildren(t *testing.T) {
	b := sample(t)
	data := b.export("a", "")
	b.do(snap("s", "a"))
	b.setPartial(true, "a")
	b.checkRefused("a", data, api.ErrActChildren)
}

// While a program runs nothing is imported, whatever else is wrong; behind it all is.
func TestP15_3WhileAProgramIsRunning(t *testing.T) {
	b := sample(t)
	data := b.export("a", "")
	for _, s := range []api.Slot{running(remove("a")), {State: api.SlotRunning, Counter: 1, Ops: []api.Op{remove("s"), remove("a")}}} {
		b.setSlot(s)
		for _, name := range []string{"", "A", "a", "n"} {
			for _, bytes := range [][]byte{nil, []byte("CST1"), data[:100], data, laid("a", 9, "zz", 3)} {
				b.checkRefused(name, bytes, api.ErrVolBusy)
			}
		}
	}
	for i, s := range []api.Slot{
		{State: api.SlotDone, Counter: 1, Ops: []api.Op{remove("s")}},
		{State: api.SlotAborted, Code: 64, Ops: []api.Op{remove("s")}},
		{},
	} {
		b.setSlot(s)
		b.imports(fmt.Sprint("n", i), data)
		x := b.begin()
		if got, e := b.p.Slot(x); fmt.Sprint(got) != fmt.Sprint(s) || e != api.OK {
			t.Errorf("behind Import Slot() = %v, %d; want %v", got, e, s)
		}
		x.Abort()
	}
}

// The order of the errors: each that holds, over all that come behind it.
func TestP15_3TheOrderOfTheErrors(t *testing.T) {
	b := sample(t)
	b.do(create("p", 9))
	b.setPartial(true, "p")
	over := laid("x", 9, "zz", 0)
	noSum := bytes.Clone(over)
	noSum[len(noSum)-1]++
	noForm := laid("X", 9, "zz", 0)
	type call struct {
		name string
		data []byte
		want api.Errno
	}
	for _, c := range []call{
		{"A", []byte("CST"), api.ErrStreamForm}, {"a", []byte("CST2...."), api.ErrStreamForm}, {"A", nil, api.ErrStreamForm},
		{"A", noSum, api.ErrStreamSum}, {"a", noSum, api.ErrStreamSum}, {"n", noSum, api.ErrStreamSum},
		{"A", noForm, api.ErrStreamForm}, {"a", noForm, api.ErrStreamForm},
		{"A", over, api.ErrActName}, {"", over, api.ErrActName},
		{"a", over, api.ErrStreamTaken},
		{"n", over, api.ErrStreamBase}, {"p", over, api.ErrStreamBase}, {"n", laid("x", 9, "p", 0), api.ErrStreamBase}, {"p", laid("x", 9, "p", 0), api.ErrStreamBase},
		{"zz", over, api.ErrStreamBase},
	} {
		b.checkRefused(c.name, c.data, c.want)
	}
	b.setSlot(running(remove("a")))
	for _, name := range []string{"A", "a", "n", "p"} {
		b.checkRefused(name, noSum, api.ErrVolBusy)
	}
	b.checkVolume(api.Volume{Name: "p", ID: 2, Size: 9, Partial: true})
}

// Behind an Import all that can be done with a volume can be done with this one.
func TestP15_3TheVolumeIsWhole(t *testing.T) {
	b := sample(t)
	b.imports("b", b.export("a", ""))
	b.do(write("b", 0, full(1)), snap("c", "b"), resize("b", 20), rename("b", "d"), restore("d", "c"), discard("d", 2, 3), fill("d", 5, 6), remove("c"), remove("d"))
	b.checkFine("behind it")
}

// What is imported lasts behind a Sync, and is found again.
func TestP15_3WhatIsSynced(t *testing.T) {
	b := sample(t)
	b.imports("b", b.export("a", ""))
	b.sync()
	want := b.tells()
	c := opened(t, b.crashed(nil))
	if got := c.tells(); got != want {
		t.Errorf("behind a Sync and a cut: %s; want %s", got, want)
	}
	if c.view().Next != 3 {
		t.Errorf("the next ID is %d", c.view().Next)
	}
}

// Each block and each range is a transaction of its own: so many, one for the beginning and one for the end.
func TestP15_3EachStepIsATransaction(t *testing.T) {
	b := made(t, 200)
	b.do(create("s", 200), write("s", 5, full(5)), write("s", 70, full(70)))
	var steps []string
	for fuse := 0; ; fuse++ {
		c := b.twin()
		data := laid("x", 200, "s", sumOfBlocks(200, c.contents("s")), has(0, full(1), full(2)), lost(5, 6), has(70, full(3)), lost(100, 130))
		c.d.Fuse(fuse)
		e := stream.Import(c.p, "n", data)
		v, ok := c.twinVolume("n")
		if told := fmt.Sprint(v, ok); len(steps) == 0 || steps[len(steps)-1] != told {
			steps = append(steps, told)
		}
		if e == api.OK {
			break
		}
	}
	want := []string{
		fmt.Sprint(api.Volume{}, false),
		fmt.Sprint(api.Volume{Name: "n", ID: 2, Size: 200, Origin: 1, Partial: true, Mapped: spans(5, 6, 70, 71)}, true),
		fmt.Sprint(api.Volume{Name: "n", ID: 2, Size: 200, Origin: 1, Partial: true, Mapped: spans(0, 1, 5, 6, 70, 71)}, true),
		fmt.Sprint(api.Volume{Name: "n", ID: 2, Size: 200, Origin: 1, Partial: true, Mapped: spans(0, 2, 5, 6, 70, 71)}, true),
		fmt.Sprint(api.Volume{Name: "n", ID: 2, Size: 200, Origin: 1, Partial: true, Mapped: spans(0, 2, 70, 71)}, true),
		fmt.Sprint(api.Volume{Name: "n", ID: 2, Size: 200, Origin: 1, Mapped: spans(0, 2, 70, 71)}, true),
	}
	if fmt.Sprint(steps) != fmt.Sprint(want) {
		t.Errorf("the steps that a cut can leave are %v; want %v", steps, want)
	}
}

// twinVolume gives a volume as it is behind a cut that all writes survive.
func (b *bench) twinVolume(name string) (api.Volume, bool) {
	b.t.Helper()
	return b.twin().volume(name)
}

// Many thousands of blocks.
func TestP15_3GreatVolumes(t *testing.T) {
	b := made(t, 262144)
	blocks := noise(512*6000, 3)
	data := laid("a", 262144, "", 0, piece{kind: 1, from: 250000, to: 256000, blocks: blocks})
	b.imports("a", data)
	b.checkVolume(api.Volume{Name: "a", ID: 1, Size: 262144, Mapped: spans(250000, 256000)})
	b.checkExport("a", "", data)
	sum := sumOfBlocks(262144, b.contents("a"))
	b.imports("b", laid("a", 262144, "a", sum, has(0, full(1)), lost(1, 255999)))
	b.checkVolume(api.Volume{Name: "b", ID: 2, Size: 262144, Origin: 1, Mapped: spans(0, 1, 255999, 256000)})
	b.checkFine("behind both")
}
