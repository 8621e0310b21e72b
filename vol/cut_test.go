package vol_test

import (
	"crypto/sha256"
	"fmt"
	"slices"
	"testing"

	"cistern/api"
	"cistern/disk"
	"cistern/pool"
	"cistern/vol"
)

// choices gives which of n pending writes stay: all choices of a few, a fixed selection of many.
func choices(n int) [][]int {
	all := firstPlaces(n)
	if n <= 3 {
		var out [][]int
		for mask := range 1 << n {
			out = append(out, slices.DeleteFunc(slices.Clone(all), func(i int) bool { return mask>>i&1 == 0 }))
		}
		return out
	}
	out := [][]int{nil, all, all[1:], all[:n-1], all[:n/2], all[n/2:]}
	for _, chance := range noise(2, uint32(n)) {
		out = append(out, slices.DeleteFunc(slices.Clone(all), func(i int) bool { return (chance>>(i%8)^byte(i/8))&1 == 1 }))
	}
	return out
}

// act is a step of a script: an operation with its answer, or a Sync.
type act struct {
	api.Op
	want api.Errno
	sync bool
}

// script fills the log of a pool of 24 more than once, with all kinds of operations, refused ones among them, and with Syncs.
func script() []act {
	var acts []act
	do := func(ops ...api.Op) {
		for _, o := range ops {
			acts = append(acts, act{Op: o})
		}
	}
	refuse := func(o api.Op, want api.Errno) { acts = append(acts, act{Op: o, want: want}) }
	sync := func() { acts = append(acts, act{sync: true}) }
	do(create("a", 67), write("a", 5, full(5)), write("a", 66, full(66)))
	refuse(create("a", 5), api.ErrActTaken)
	do(snap("s", "a"), write("a", 5, full(6)))
	sync()
	do(write("a", 5, full(7)), discard("a", 66, 67), clone("c", "s"))
	refuse(remove("s"), api.ErrActChildren)
	do(rename("c", "~c"), resize("~c", 6), fill("a", 0, 4))
	refuse(fill("a", 8, 40), api.ErrSpaceFull)
	do(extend(26), write("~c", 5, noise(512, 1)))
	sync()
	sync()
	do(restore("s", "~c"), remove("~c"), create("e", 9))
	do(write("e", 8, noise(512, 2)), write("e", 8, noise(512, 3)))
	refuse(extend(26), api.ErrActSize)
	do(restore("e", "e"), discard("e", 0, 9), resize("e", 20), fill("e", 15, 20))
	sync()
	for i := range 6 {
		do(write("a", i, noise(512, uint32(10+i))), discard("s", 5, 6), write("s", 5, full(byte(i))))
	}
	sync()
	do(remove("s"), remove("e"), snap("t", "a"), discard("a", 0, 3), resize("a", 4), rename("t", "u"), extend(27), restore("a", "u"))
	for i := range 5 {
		do(write("u", i, full(byte(100+i))), write("a", i%3+64, full(byte(200+i))), discard("a", i%3+64, i%3+65))
	}
	return acts
}

// tells gives what a pool tells by View and Mapped, and by Read of every block of every volume.
func tells(t *testing.T, p *pool.Pool) string {
	t.Helper()
	view, e := vol.View(p)
	if e != api.OK {
		t.Fatalf("View() = %d", e)
	}
	sum := sha256.New()
	for _, v := range view.Volumes {
		if ranges, e := vol.Mapped(p, v.Name); !slices.Equal(ranges, v.Mapped) || e != api.OK {
			t.Fatalf("Mapped(%q) = %v, %d; the view shows %v", v.Name, ranges, e, v.Mapped)
		}
		for l := range v.Size {
			data, e := vol.Read(p, v.Name, l)
			if e != api.OK {
				t.Fatalf("Read(%q, %d) = %d", v.Name, l, e)
			}
			sum.Write(data)
		}
	}
	return fmt.Sprintf("%v %x", view, sum.Sum(nil))
}

// history is what a pool tells behind each of the operations that were done, and what may be found of them behind a cut.
type history struct {
	states []string // by how many were done
	acts   []act    // what is still to be done
	taken  int      // how many were done
	called int      // the same, or one more: that in whose Do the power went off
	lasts  int      // how many of them were synced, or found
}

// may gives the states of which a cut leaves one.
func (h *history) may() []string { return h.states[h.lasts : h.called+1] }

// begun gives a new pool of 24, on a disk that holds 27.
func begun(t *testing.T) *bench {
	t.Helper()
	return made(t, 24, 3)
}

// whole gives the history of a script that is not begun.
func whole(t *testing.T) *history {
	t.Helper()
	b := begun(t)
	h := &history{states: []string{tells(t, b.p)}, acts: script()}
	for _, a := range h.acts {
		if a.sync {
			b.sync()
			continue
		}
		b.check(a.Op, a.want)
		if a.want == api.OK {
			h.states = append(h.states, tells(t, b.p))
		}
	}
	return h
}

// fresh gives the same history, from its beginning.
func (h *history) fresh() *history { return &history{states: h.states, acts: h.acts} }

// plays goes on with the script, until the power goes off or so many acts are done. It tells whether the power is on.
func (h *history) plays(b *bench, most int) bool {
	b.t.Helper()
	for range min(most, len(h.acts)) {
		a := h.acts[0]
		e := b.plays(a)
		switch {
		case e == api.ErrDiskOff:
			if !a.sync && a.want == api.OK {
				h.called++
			}
			checkOff(b)
			return false
		case e != a.want:
			b.t.Fatalf("%s (Sync: %v) = %d; want %d", told(a.Op), a.sync, e, a.want)
		case a.sync:
			h.lasts = h.taken
		case e == api.OK:
			h.taken++
			h.called = h.taken
		}
		h.acts = h.acts[1:]
	}
	return true
}

func (b *bench) plays(a act) api.Errno {
	if a.sync {
		return b.p.Sync()
	}
	return vol.Do(b.p, a.Op)
}

// checkOff holds that behind a call in which the power went off all calls say so.
func checkOff(b *bench) {
	b.t.Helper()
	if b.d.On() {
		b.t.Fatalf("a call answers ErrDiskOff though the power is on")
	}
	if e := vol.Do(b.p, create("n", 5)); e != api.ErrDiskOff {
		b.t.Errorf("Do behind a cut = %d", e)
	}
	if _, e := vol.View(b.p); e != api.ErrDiskOff {
		b.t.Errorf("View behind a cut = %d", e)
	}
	if data, e := vol.Read(b.p, "a", 0); len(data) != 0 || e != api.ErrDiskOff {
		b.t.Errorf("Read behind a cut = %d bytes, %d", len(data), e)
	}
}

// goesBack says that behind a cut the pool is that behind so many operations: from there on the script is done again.
func (h *history) goesBack(n int) {
	h.taken, h.called, h.lasts = n, n, n
	h.acts = script()
	for i := 0; i < n; h.acts = h.acts[1:] {
		if !h.acts[0].sync && h.acts[0].want == api.OK {
			i++
		}
	}
}

// checkCuts opens what any of the pending writes leave, and holds that it may be so.
func (h *history) checkCuts(b *bench, within bool) {
	b.t.Helper()
	for i, keep := range choices(b.pending()) {
		image := b.crashed(keep)
		c := found(b.t, diskOf(b.t, image))
		after := tells(b.t, c.p)
		n := slices.Index(h.may(), after)
		if n < 0 {
			b.t.Fatalf("behind a cut that %d of %d writes survive, %d operations done, there is a pool that may not be: %s", len(keep), b.pending(), h.taken, after)
		}
		if i == 1 {
			checkLasts(c, after)
		}
		if within && i%5 == 0 {
			checkCutsWithinOpen(b.t, image, h.may()[n:])
		}
	}
}

// checkLasts holds that what was found when a pool was opened lasts, and is found again over the same disk.
func checkLasts(c *bench, after string) {
	c.t.Helper()
	if got := tells(c.t, c.lasting().p); got != after {
		c.t.Fatalf("what was found does not last: %s; want %s", got, after)
	}
	c.again()
	if got := tells(c.t, c.p); got != after {
		c.t.Fatalf("opened anew there is another pool: %s; want %s", got, after)
	}
}

// checkCutsWithinOpen opens an image with every fuse that Open can reach, and again what is left then: it is the same pool, or
// one of those with more of its operations.
func checkCutsWithinOpen(t *testing.T, image []byte, may []string) {
	t.Helper()
	for fuse := 0; ; fuse++ {
		d := diskOf(t, image)
		d.Fuse(fuse)
		p, e := pool.Open(d)
		if e == api.OK && d.On() {
			return
		}
		if p != nil || e != api.ErrDiskOff || d.On() {
			t.Fatalf("Open with a fuse of %d = a pool: %v, %d", fuse, p != nil, e)
		}
		checkLeft(t, d, may)
	}
}

// checkLeft opens what a cut within Open leaves.
func checkLeft(t *testing.T, d *disk.Disk, may []string) {
	t.Helper()
	b := &bench{t: t, d: d}
	n := b.pending()
	all := firstPlaces(n)
	for _, keep := range [][]int{nil, all, all[n/2:], all[:n/2]} {
		if got := tells(t, found(t, diskOf(t, b.crashed(keep))).p); !slices.Contains(may, got) {
			t.Fatalf("behind a cut within Open of which %d of %d writes survive there is a pool that may not be: %s", len(keep), n, got)
		}
	}
}

// inTurns does something so many times, some of them side by side: each has its own pool.
func inTurns(t *testing.T, count int, do func(t *testing.T, n int)) {
	t.Helper()
	const lanes = 8
	for lane := range lanes {
		t.Run(fmt.Sprint(lane), func(t *testing.T) {
			t.Parallel()
			for n := lane; n < count && !t.Failed(); n += lanes {
				do(t, n)
			}
		})
	}
}

// writesOf tells how many writes and flushes a script has.
func writesOf(t *testing.T, h *history) int {
	t.Helper()
	for fuse := 100; ; fuse += 100 {
		b := begun(t)
		b.d.Fuse(fuse)
		if h.fresh().plays(b, len(h.acts)) {
			return fuse
		}
	}
}

// The power goes off at every write and barrier of every Do and every Sync.
func TestP11_5CutsAtEveryWriteAndBarrier(t *testing.T) {
	h := whole(t)
	count := writesOf(t, h)
	if count < 400 {
		t.Errorf("the script has %d writes and flushes alone", count)
	}
	inTurns(t, count, func(t *testing.T, fuse int) {
		b, h := begun(t), h.fresh()
		b.d.Fuse(fuse)
		h.plays(b, len(h.acts))
		h.checkCuts(b, fuse%67 == 0)
	})
}

func TestP11_5CutsBetweenCalls(t *testing.T) {
	h := whole(t)
	inTurns(t, len(h.acts)+1, func(t *testing.T, n int) {
		b, h := begun(t), h.fresh()
		h.plays(b, n)
		h.checkCuts(b, n%16 == 1)
		// Of one that is refused, and of one in a transaction that is not committed, nothing is there.
		b.check(create("A", 5), api.ErrActName)
		x := b.begin()
		if _, e := b.p.Space().Alloc(x); e != api.OK && e != api.ErrSpaceFull {
			t.Fatalf("Alloc(t) = %d", e)
		}
		h.checkCuts(b, false)
	})
}

// One cut behind the other: what is found each time lasts, and the script goes on behind it.
func TestP11_5ManyCutsInARow(t *testing.T) {
	h := whole(t)
	inTurns(t, 16, func(t *testing.T, seed int) {
		chance := noise(4000, uint32(seed+5))
		roll := func(n int) int {
			chance = chance[1:]
			return int(chance[0]) % n
		}
		b, h := begun(t), h.fresh()
		cuts := 0
		for len(h.acts) > 0 && len(chance) > 10 {
			b.d.Fuse(roll(90))
			h.plays(b, len(h.acts))
			keeps := choices(b.pending())
			b = found(t, diskOf(t, b.crashed(keeps[roll(len(keeps))])))
			n := slices.Index(h.may(), tells(t, b.p))
			if n < 0 {
				t.Fatalf("behind %d cuts there is a pool that may not be", cuts)
			}
			h.goesBack(h.lasts + n)
			cuts++
		}
		if len(h.acts) > 0 || cuts < 5 {
			t.Errorf("%d acts are left behind %d cuts", len(h.acts), cuts)
		}
	})
}

// Behind a Sync all that was done is there, whatever becomes of the writes behind it; ahead of one any beginning may be.
func TestP11_5WhatIsSyncedIsThere(t *testing.T) {
	b := begun(t)
	b.do(create("a", 70))
	b.sync()
	for i := range 8 {
		b.do(write("a", i, full(byte(i+1))))
		if i%2 == 1 {
			b.sync()
		}
		synced := i / 2 * 2
		if i%2 == 1 {
			synced = i + 1
		}
		for _, keep := range choices(b.pending()) {
			c := found(t, diskOf(t, b.crashed(keep)))
			n := 0
			for n < 8 && c.read("a", n)[0] == byte(n+1) {
				n++
			}
			if n < synced || n > i+1 {
				t.Errorf("of %d writes, %d of them synced, %d are there", i+1, synced, n)
			}
			for l := n; l < 70; l++ {
				c.checkRead("a", l, 0)
			}
		}
	}
}

// In one Do of each kind the power goes off, at every write: the pool is as it was, or as it shall be, and both are met.
func TestP11_5NoOperationIsThereInPart(t *testing.T) {
	for _, o := range []api.Op{
		create("n", 100), snap("n", "a"), clone("n", "s"), resize("a", 4), rename("a", "z"), remove("c"), restore("c", "s"),
		write("a", 0, full(50)), write("s", 9, full(51)), discard("a", 1, 65), fill("e", 18, 50), extend(71),
	} {
		met := map[string]int{}
		var before, after string
		for fuse := 0; ; fuse++ {
			b := made(t, 70, 2)
			b.do(create("a", 70), write("a", 0, full(1)), write("a", 64, full(2)), snap("s", "a"), clone("c", "a"), write("c", 3, full(3)), create("e", 60))
			b.sync()
			before = tells(t, b.p)
			b.d.Fuse(fuse)
			e := vol.Do(b.p, o)
			for _, keep := range choices(b.pending()) {
				met[tells(t, found(t, diskOf(t, b.crashed(keep))).p)]++
			}
			if e == api.OK {
				after = tells(t, b.p)
				break
			}
			if e != api.ErrDiskOff || b.d.On() {
				t.Fatalf("Do(%s) with a fuse of %d = %d, on: %v", told(o), fuse, e, b.d.On())
			}
		}
		if len(met) != 2 || met[before] == 0 || met[after] == 0 {
			t.Errorf("Do(%s): the cuts leave %d states; want both what was ahead and what is behind", told(o), len(met))
		}
	}
}

// A program that is running is found behind a cut: no operation is done then either.
func TestP11_5ARunningProgramBehindACut(t *testing.T) {
	b := used(t)
	b.setSlot(running(remove("a")))
	b.sync()
	c := b.lasting()
	c.checkRefused(write("a", 0, full(1)), api.ErrVolBusy)
	c.checkTold()
}
