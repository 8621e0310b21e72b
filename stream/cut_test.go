package stream_test

import (
	"bytes"
	"fmt"
	"maps"
	"slices"
	"testing"

	"cistern/api"
	"cistern/check"
	"cistern/stream"
	"cistern/vol"
)

// choices gives which of n pending writes stay: all choices of a few, a fixed selection of many.
func choices(n int) [][]int {
	all := firstPlaces(n)
	if n <= 3 {
		var out [][]int
		for mask := range 1 << n {
			out = append(out, slices.DeleteFunc(slices.Clone(all), func(i int) bool { return mask>>i&1 == 0 }))
		}
		return out
	}
	out := [][]int{nil, all, all[1:], all[:n-1], all[:n/2], all[n/2:]}
	for _, chance := range noise(2, uint32(n)) {
		out = append(out, slices.DeleteFunc(slices.Clone(all), func(i int) bool { return (chance>>(i%8)^byte(i/8))&1 == 1 }))
	}
	return out
}

// scene is an Import of n, ahead of which something is done that lasts, and something that does not yet.
type scene struct {
	capacity int
	ahead    func(b *bench)
	pending  []api.Op
	data     func(b *bench) []byte
	want     api.Errno
}

// base makes the volume s, from which increments come.
func base(b *bench) {
	b.do(create("s", 200), write("s", 0, full(1)), write("s", 2, full(2)), write("s", 64, full(3)), write("s", 130, noise(512, 4)))
}

// overBase gives an increment with data, gone ranges and ranges that touch.
func overBase(b *bench) []byte {
	return laid("x", 200, "s", sumOfBlocks(200, b.contents("s")), lost(0, 1), has(1, full(9)), has(5, noise(512, 8), full(0)), lost(64, 65), has(130, full(12)))
}

func whole(*bench) []byte {
	return laid("x", 100, "", 0, has(2, full(7), full(0)), has(64, noise(512, 9)), has(99, full(5)))
}

func wide(*bench) []byte {
	return laid("x", 200, "", 0, has(0, full(1), full(2)), has(64, full(3)), has(128, full(4)))
}

func scenes() map[string]scene {
	other := func(b *bench) { b.do(create("o", 3), write("o", 1, full(9))) }
	partial := func(b *bench) {
		other(b)
		b.do(create("n", 70), write("n", 3, full(33)), write("n", 69, full(34)))
		b.setPartial(true, "n")
	}
	return map[string]scene{
		"a whole stream": {capacity: 30, ahead: other, data: whole},
		"a whole stream, behind what does not last": {
			capacity: 30, ahead: other, data: whole,
			pending: []api.Op{write("o", 0, full(10)), create("q", 5), write("o", 1, full(11))},
		},
		"in the place of a Partial volume": {capacity: 12, ahead: partial, data: whole},
		"an increment":                     {capacity: 40, ahead: func(b *bench) { other(b); base(b) }, data: overBase},
		"an increment in the place of a Partial clone": {
			capacity: 40, data: overBase, pending: []api.Op{write("o", 2, full(22))},
			ahead: func(b *bench) {
				other(b)
				base(b)
				b.do(clone("n", "s"), write("n", 2, full(99)), discard("n", 64, 65))
				b.setPartial(true, "n")
			},
		},
		"a stream without runs":  {capacity: 20, ahead: other, data: func(*bench) []byte { return laid("x", 5, "", 0) }},
		"no room":                {capacity: 10, ahead: other, data: whole, want: api.ErrSpaceFull},
		"no room for the last":   {capacity: 12, ahead: other, data: wide, want: api.ErrSpaceFull},
		"no room, and a Partial": {capacity: 11, ahead: partial, data: whole, want: api.ErrSpaceFull},
		"no room for an increment": {
			capacity: 20, ahead: func(b *bench) { other(b); base(b) }, data: overBase, want: api.ErrSpaceFull,
		},
	}
}

// play is a scene that is cut.
type play struct {
	scene
	image []byte // what lasts ahead of it
	bytes []byte // the stream
	heads []string
	met   map[string]int
	end   *bench // the pool behind an Import without a cut
}

// state gives all that a pool tells.
func (b *bench) state() string {
	b.t.Helper()
	v := b.view()
	return fmt.Sprint(v.Capacity, v.Free, v.Next, b.tells())
}

func newPlay(t *testing.T, s scene) *play {
	t.Helper()
	b := made(t, s.capacity)
	s.ahead(b)
	b.sync()
	x := &play{scene: s, image: b.crashed(nil), bytes: s.data(b), met: map[string]int{}}
	x.heads = []string{b.state()}
	for _, o := range s.pending {
		b.do(o)
		x.heads = append(x.heads, b.state())
	}
	b.checkImport("n", x.bytes, s.want)
	b.checkFine("behind an Import without a cut")
	x.end = b
	return x
}

// begun gives the pool with all that is done ahead of the Import.
func (x *play) begun(t *testing.T) *bench {
	t.Helper()
	b := opened(t, x.image)
	b.do(x.pending...)
	return b
}

// checkLeft holds that what is found behind a cut is what may be; and that the same stream can be imported there.
func (x *play) checkLeft(b *bench) {
	b.t.Helper()
	b.checkFine("behind a cut")
	v, ok := b.volume("n")
	isHead := slices.Contains(x.heads, b.state())
	end, endOK := x.end.volume("n")
	switch {
	case isHead:
		x.met["ahead"]++
	case b.tells("n") != x.end.tells("n"):
		b.t.Fatalf("behind a cut other volumes are %s; want %s", b.tells("n"), x.end.tells("n"))
	case !ok:
		x.met["not there"]++
	case v.Partial:
		x.met["Partial"]++
		b.checkPartial("n")
	case !endOK || b.tells() != x.end.tells():
		b.t.Fatalf("behind a cut there is %v; want what is there without a cut, %v (there: %v)", v, end, endOK)
	default:
		x.met["done"]++
	}
	x.checkAgain(b, ok && !v.Partial)
}

// checkAgain holds that Import of the same stream is done, if it is not there, and comes to the same.
func (x *play) checkAgain(b *bench, isDone bool) {
	b.t.Helper()
	others := b.tells("n")
	want := x.want
	if isDone {
		want = api.ErrStreamTaken
	}
	b.checkImport("n", x.bytes, want)
	if b.tells("n") != others {
		b.t.Fatalf("Import again has changed other volumes from %s to %s", others, b.tells("n"))
	}
	v, ok := b.volume("n")
	end, endOK := x.end.volume("n")
	v.ID, end.ID = 0, 0
	if ok != endOK || fmt.Sprint(v) != fmt.Sprint(end) {
		b.t.Fatalf("behind Import again there is %v (there: %v); want %v (%v)", v, ok, end, endOK)
	}
	if ok && !maps.EqualFunc(b.contents("n"), x.end.contents("n"), bytes.Equal) {
		b.t.Fatalf("behind Import again others are read")
	}
	b.checkFine("behind Import again")
}

// checkPartial holds that a Partial volume is the source of nothing, and cannot be read; but it can be deleted.
func (b *bench) checkPartial(name string) {
	b.t.Helper()
	for _, o := range []api.Op{snap("m", name), clone("m", name), restore("o", name), restore(name, "o"), write(name, 0, full(1)), rename(name, "m"), resize(name, 5), discard(name, 0, 1), fill(name, 0, 1)} {
		if e := vol.Do(b.p, o); e != api.ErrActPartial {
			b.t.Errorf("Do(kind %d) of a Partial volume = %d", o.Kind, e)
		}
	}
	if data, e := vol.Read(b.p, name, 0); len(data) != 0 || e != api.ErrActPartial {
		b.t.Errorf("Read of a Partial volume = %d bytes, %d", len(data), e)
	}
	b.checkNoExport(name, "", api.ErrActPartial)
	b.checkNoExport("o", name, api.ErrActPartial)
	b.checkRefused("m", laid("x", 100, name, 0), api.ErrStreamBase)
	c := b.twin()
	c.do(remove(name))
	c.checkFine("behind it is deleted")
}

// The power goes off at every write and barrier of an Import, any of the pending writes surviving.
func TestP15_5CutsAtEveryWriteAndBarrier(t *testing.T) {
	for what, s := range scenes() {
		t.Run(what, func(t *testing.T) {
			t.Parallel()
			x := newPlay(t, s)
			for fuse := 0; ; fuse++ {
				b := x.begun(t)
				b.d.Fuse(fuse)
				e := stream.Import(b.p, "n", x.bytes)
				isOn := b.d.On()
				if isOn && e != s.want || !isOn && e != api.ErrDiskOff {
					t.Fatalf("Import with a fuse of %d = %d, the power is on: %v", fuse, e, isOn)
				}
				for _, keep := range choices(b.pending()) {
					image := b.crashed(keep)
					if got, e := check.CheckImage(image); len(got) != 0 || e != api.OK {
						t.Fatalf("CheckImage behind a cut at %d = %v, %d", fuse, got, e)
					}
					x.checkLeft(opened(t, image))
				}
				if isOn {
					break
				}
			}
			if x.met["ahead"] == 0 || x.met["Partial"] == 0 || s.want == api.OK && x.met["done"] == 0 || s.want != api.OK && x.met["not there"] == 0 {
				t.Errorf("the cuts leave %v", x.met)
			}
		})
	}
}

// Behind an Import that is done and synced all of it is there, whatever becomes of the writes behind it.
func TestP15_5WhatIsSyncedIsThere(t *testing.T) {
	for what, s := range scenes() {
		x := newPlay(t, s)
		b := x.begun(t)
		b.checkImport("n", x.bytes, s.want)
		b.sync()
		want := b.state()
		b.do(create("later", 5), write("o", 1, full(200)))
		b.imports("m", laid("x", 9, "", 0))
		for _, keep := range choices(b.pending()) {
			c := opened(t, b.crashed(keep))
			_, isLater := c.volume("later")
			if got := c.state(); got != want && !isLater {
				t.Errorf("%s: behind a Sync and a cut there is %s; want %s", what, got, want)
			}
		}
	}
}

// Import, cut, Import again, cut again, until it comes to its end.
func TestP15_5ManyCutsInARow(t *testing.T) {
	for what, s := range scenes() {
		if s.want != api.OK {
			continue
		}
		for seed := range 6 {
			x := newPlay(t, s)
			b := x.begun(t)
			b.sync()
			chance := noise(2000, uint32(seed+1))
			cuts := 0
			for {
				roll := int(chance[0]) % 40
				b.d.Fuse(roll)
				e := stream.Import(b.p, "n", x.bytes)
				if e == api.OK || e == api.ErrStreamTaken {
					break
				}
				keeps := choices(b.pending())
				b = opened(t, b.crashed(keeps[int(chance[1])%len(keeps)]))
				b.checkFine(what)
				if b.tells("n") != x.end.tells("n") {
					t.Fatalf("%s: behind %d cuts other volumes are changed", what, cuts)
				}
				chance = chance[2:]
				cuts++
			}
			v, _ := b.volume("n")
			end, _ := x.end.volume("n")
			v.ID, end.ID = 0, 0
			if fmt.Sprint(v) != fmt.Sprint(end) || !maps.EqualFunc(b.contents("n"), x.end.contents("n"), bytes.Equal) {
				t.Errorf("%s: behind %d cuts there is %v; want %v", what, cuts, v, end)
			}
			b.checkFine(what)
		}
	}
}

// An increment whose base is not synced: behind a cut it is there with the base, or not at all.
func TestP15_5ABaseThatDoesNotLast(t *testing.T) {
	b := made(t, 40)
	b.sync()
	image := b.crashed(nil)
	for fuse := 0; ; fuse++ {
		b := opened(t, image)
		base(b)
		data := overBase(b)
		b.d.Fuse(fuse)
		e := stream.Import(b.p, "n", data)
		for _, keep := range choices(b.pending()) {
			c := opened(t, b.crashed(keep))
			c.checkFine("behind a cut")
			if _, ok := c.volume("n"); ok {
				if v, _ := c.volume("s"); fmt.Sprint(v.Mapped) != fmt.Sprint(spans(0, 1, 2, 3, 64, 65, 130, 131)) {
					t.Fatalf("n is there, and its base is %v", v)
				}
			}
		}
		if e == api.OK {
			break
		}
	}
}
