package stream_test

import (
	"bytes"
	"fmt"
	"maps"
	"slices"
	"testing"

	"cistern/api"
	"cistern/stream"
	"cistern/vol"
)

// dice are numbers that look like chance.
type dice struct{ rest []byte }

func (d *dice) roll(n int) int {
	if len(d.rest) < 2 {
		return 0
	}
	got := (int(d.rest[0])<<8 | int(d.rest[1])) % n
	d.rest = d.rest[2:]
	return got
}

func (d *dice) pick(names ...string) string { return names[d.roll(len(names))] }

// name gives one of a few names.
func (d *dice) name() string { return d.pick("a", "b", "c", "d", "e") }

// block gives one of a few logical blocks, some of them at the ends of nodes.
func (d *dice) block() int { return []int{0, 1, 2, 3, 4, 5, 62, 63, 64, 65, 127, 128, 199}[d.roll(13)] }

// data gives one of a few blocks: so two volumes often read the same at other pool blocks.
func (d *dice) data() []byte {
	switch n := d.roll(4); n {
	case 3:
		return lastByte(1)
	default:
		return full(byte(n))
	}
}

func (d *dice) op() api.Op {
	switch d.roll(12) {
	case 0:
		return create(d.name(), 200-d.roll(2)*100)
	case 1:
		return snap(d.name(), d.name())
	case 2:
		return clone(d.name(), d.name())
	case 3:
		return resize(d.name(), 200-d.roll(2)*100)
	case 4:
		return remove(d.name())
	case 5:
		return restore(d.name(), d.name())
	case 6, 7:
		from := d.block()
		return discard(d.name(), from, from+d.roll(4))
	case 8:
		from := d.block()
		return fill(d.name(), from, from+d.roll(3))
	default:
		return write(d.name(), d.block(), d.data())
	}
}

// checkExports holds of all pairs of volumes that they are exported as View and Read tell them.
func (b *bench) checkExports() {
	b.t.Helper()
	volumes := b.view().Volumes
	for _, v := range volumes {
		b.checkExport(v.Name, "", b.expected(v.Name, ""))
		for _, base := range volumes {
			if base.Size != v.Size {
				b.checkNoExport(v.Name, base.Name, api.ErrStreamSince)
			} else {
				b.checkExport(v.Name, base.Name, b.expected(v.Name, base.Name))
			}
		}
	}
}

// Operations, exports and imports in turns: each stream is as the document says it, and each Import as the operations that it
// stands for; what it makes reads and is mapped as what was exported.
func TestP15_4OperationsInTurns(t *testing.T) {
	counts := map[api.Errno]int{}
	for seed := range 8 {
		d := &dice{noise(2500, uint32(seed+100))}
		b := made(t, 16+seed*10)
		for step := 0; len(d.rest) > 40 && !t.Failed(); step++ {
			vol.Do(b.p, d.op())
			if step%12 == 0 {
				b.checkExports()
			}
			if step%4 != 0 {
				continue
			}
			name, since, to := d.name(), d.pick("", "a", "b", "c", "d", "e"), d.pick("x", "y", "a", "b")
			if v, ok := b.volume(to); ok && d.roll(2) == 0 && !b.hasChildren(v.ID) {
				b.setPartial(true, to)
			}
			counts[b.roundTrip(name, since, to)]++
			b.healPartial()
		}
		b.checkFine("behind it")
	}
	for _, e := range []api.Errno{api.OK, api.ErrSpaceFull, api.ErrStreamTaken, api.ErrActUnknown, api.ErrActPartial, api.ErrStreamSince} {
		if counts[e] < 5 {
			t.Errorf("%d came %d times alone", e, counts[e])
		}
	}
}

func (b *bench) hasChildren(id int) bool {
	return slices.ContainsFunc(b.view().Volumes, func(v api.Volume) bool { return v.Origin == id })
}

// healPartial deletes what is Partial still.
func (b *bench) healPartial() {
	b.t.Helper()
	for _, v := range b.view().Volumes {
		if v.Partial {
			b.do(remove(v.Name))
		}
	}
}

// roundTrip exports a volume and imports it under another name: the first error, or OK.
func (b *bench) roundTrip(name string, since string, to string) api.Errno {
	b.t.Helper()
	data, e := stream.Export(b.p, name, since)
	if e != api.OK {
		return e
	}
	size, contents := 0, b.contents(name)
	if v, ok := b.volume(name); ok {
		size = v.Size
	}
	v, isThere := b.volume(to)
	switch {
	case isThere && !v.Partial:
		b.checkRefused(to, data, api.ErrStreamTaken)
		return api.ErrStreamTaken
	case since != "" && len(b.contents(since)) > 0:
		// Once with another base, and then with that one as it was.
		c := b.twin()
		c.do(discard(since, 0, size))
		c.checkRefused(to, data, api.ErrStreamBase)
	}
	if e := b.checkReplayed(to, data); e != api.OK {
		return e
	}
	if !maps.EqualFunc(b.contents(to), contents, bytes.Equal) {
		b.t.Errorf("what was imported of %q over %q has other blocks than what was exported", name, since)
	}
	if v, _ := b.volume(to); v.Size != size || v.Partial || v.Kind != api.KindVolume {
		b.t.Errorf("what was imported of %q over %q is %v", name, since, v)
	}
	return api.OK
}

// A volume is carried into another pool, step by step: first whole, then what has changed since the snapshot before. There it reads
// as it does here, and its streams are the same bytes.
func TestP15_4AChainOfIncrements(t *testing.T) {
	for seed := range 6 {
		d := &dice{noise(4000, uint32(seed+7))}
		b, far := made(t, 300), made(t, 300)
		b.do(create("a", 200))
		far.do(create("zz", 5))
		last := ""
		for round := range 12 {
			for range 5 {
				if o := d.op(); slices.Contains([]int{api.OpWrite, api.OpDiscard, api.OpFill}, o.Kind) {
					o.Name = "a"
					vol.Do(b.p, o)
				}
			}
			name := fmt.Sprint("s", round)
			b.do(snap(name, "a"))
			data := b.export(name, last)
			far.imports(name, data)
			far.checkExport(name, last, data)
			if !maps.EqualFunc(far.contents(name), b.contents(name), bytes.Equal) {
				t.Fatalf("what was carried over in round %d reads others", round)
			}
			last = name
		}
		far.checkFine("behind it")
		// Each of them over each other one.
		for i := range 12 {
			one, other := fmt.Sprint("s", i), fmt.Sprint("s", (i*5+3)%12)
			far.checkExport(one, other, b.export(one, other))
		}
	}
}

// What is exported is what the bytes were then: what is done later changes nothing of it.
func TestP15_4WhatWasExportedStays(t *testing.T) {
	b := used(t)
	data, contents := b.export("a", ""), b.contents("a")
	over := b.export("a", "s")
	want := bytes.Clone(data)
	b.do(write("a", 0, full(99)), discard("a", 70, 71), write("a", 2000, full(20)), resize("a", 100))
	if !bytes.Equal(data, want) {
		t.Errorf("a stream is changed by what is done to its volume")
	}
	b.imports("n", data)
	b.imports("m", over)
	for _, name := range []string{"n", "m"} {
		if !maps.EqualFunc(b.contents(name), contents, bytes.Equal) {
			t.Errorf("%s has other blocks than what was exported", name)
		}
	}
	b.checkVolume(api.Volume{Name: "n", ID: 6, Size: 5000, Mapped: spans(0, 2, 70, 71, 4999, 5000)})
	b.checkVolume(api.Volume{Name: "m", ID: 7, Size: 5000, Origin: 2, Mapped: spans(0, 2, 70, 71, 4999, 5000)})
}
