package check_test

import (
	"fmt"
	"slices"
	"testing"

	"cistern/api"
	"cistern/check"
	"cistern/pool"
	"cistern/usage"
	"cistern/vol"
)

// choices gives which of n pending writes stay: all choices of a few, a fixed selection of many.
func choices(n int) [][]int {
	all := firstPlaces(n)
	if n <= 3 {
		var out [][]int
		for mask := range 1 << n {
			out = append(out, slices.DeleteFunc(slices.Clone(all), func(i int) bool { return mask>>i&1 == 0 }))
		}
		return out
	}
	out := [][]int{nil, all, all[1:], all[:n-1], all[:n/2], all[n/2:]}
	for _, chance := range noise(2, uint32(n)) {
		out = append(out, slices.DeleteFunc(slices.Clone(all), func(i int) bool { return (chance>>(i%8)^byte(i/8))&1 == 1 }))
	}
	return out
}

// act is a step of a script: it is done with a pool.
type act func(p *pool.Pool) api.Errno

// script fills the log of a pool of 24 more than once, with all kinds of operations, refused ones among them, with Syncs and slots.
func script() []act {
	var acts []act
	do := func(ops ...api.Op) {
		for _, o := range ops {
			acts = append(acts, func(p *pool.Pool) api.Errno { return vol.Do(p, o) })
		}
	}
	sync := func() { acts = append(acts, (*pool.Pool).Sync) }
	set := func(s api.Slot) {
		acts = append(acts, func(p *pool.Pool) api.Errno { return setSlot(p, s) })
	}
	do(create("a", 67), write("a", 5, full(5)), write("a", 66, full(66)), create("a", 5), snap("s", "a"), write("a", 5, full(6)))
	sync()
	do(write("a", 5, full(7)), discard("a", 66, 67), clone("c", "s"), remove("s"), rename("c", "~c"), resize("~c", 6), fill("a", 0, 4))
	do(fill("a", 8, 40), extend(26), write("~c", 5, noise(512, 1)))
	sync()
	sync()
	do(restore("s", "~c"), remove("~c"), create("e", 9), write("e", 8, noise(512, 2)), write("e", 8, noise(512, 3)), extend(26))
	set(api.Slot{State: api.SlotRunning, Ops: []api.Op{remove("e"), remove("s")}})
	do(remove("e"))
	set(api.Slot{State: api.SlotRunning, Counter: 1, Ops: []api.Op{remove("e"), remove("s")}})
	sync()
	set(api.Slot{})
	do(restore("e", "e"), discard("e", 0, 9), resize("e", 20), fill("e", 15, 20))
	for i := range 8 {
		do(write("a", i%6, noise(512, uint32(10+i))), discard("s", 5, 6), write("s", 5, full(byte(i))))
	}
	sync()
	do(remove("s"), remove("e"), snap("t", "a"), discard("a", 0, 3), resize("a", 4), rename("t", "u"), extend(27), restore("a", "u"))
	do(snap("v", "u"), write("v", 1, full(9)), write("u", 3, full(100)), remove("v"), write("a", 64, full(200)), discard("a", 64, 65))
	return acts
}

func setSlot(p *pool.Pool, s api.Slot) api.Errno {
	x, e := p.Begin()
	if e != api.OK {
		return e
	}
	if e := p.SetSlot(x, s); e != api.OK {
		x.Abort()
		return e
	}
	return x.Commit()
}

// plays does acts until the power goes off. It tells how many were done.
func (b *bench) plays(acts []act) int {
	for i, a := range acts {
		if a(b.p) == api.ErrDiskOff {
			return i
		}
	}
	return len(acts)
}

// checkLeft holds that nothing is found in what a cut leaves, of which these writes survive: in the image, in the pool that is
// opened from it, and in that over the same disk once more; there the parts add up to the capacity, and it goes on.
func (b *bench) checkLeft(keep []int, goesOn []act) {
	b.t.Helper()
	image := b.crashed(keep)
	what := fmt.Sprintf("behind a cut that %d of %d writes survive", len(keep), len(b.pending()))
	if got, e := check.CheckImage(image); len(got) != 0 || e != api.OK {
		b.t.Fatalf("%s: CheckImage = %v, %d", what, got, e)
	}
	c := opened(b.t, image)
	c.checkNothing(what)
	c.again()
	c.checkNothing(what + ", opened anew")
	if len(goesOn) > 0 {
		c.plays(goesOn)
		c.checkNothing(what + ", and gone on")
	}
}

// checkNothing holds that nothing is found, and that free, nodes and data add up to the capacity.
func (b *bench) checkNothing(what string) {
	b.t.Helper()
	if got, e := check.Check(b.p); len(got) != 0 || e != api.OK {
		b.t.Fatalf("%s: Check = %v, %d", what, got, e)
	}
	if n, e := usage.Total(b.p); n.Free+n.Nodes+n.Data != n.Capacity || e != api.OK {
		b.t.Fatalf("%s: Total = %v, %d", what, n, e)
	}
}

// inTurns does something so many times, some of them side by side: each has its own pool.
func inTurns(t *testing.T, count int, do func(t *testing.T, n int)) {
	t.Helper()
	const lanes = 8
	for lane := range lanes {
		t.Run(fmt.Sprint(lane), func(t *testing.T) {
			t.Parallel()
			for n := lane; n < count && !t.Failed(); n += lanes {
				do(t, n)
			}
		})
	}
}

// The power goes off at every write and barrier of every call.
func TestP14_3CutsAtEveryWriteAndBarrier(t *testing.T) {
	acts := script()
	count := 0
	for {
		b := made(t, 24, 3)
		b.d.Fuse(count)
		if b.plays(acts) == len(acts) {
			break
		}
		count += 20
	}
	if count < 300 {
		t.Errorf("the script has %d writes and flushes alone", count)
	}
	inTurns(t, count, func(t *testing.T, fuse int) {
		b := made(t, 24, 3)
		b.d.Fuse(fuse)
		done := b.plays(acts)
		refuse(t, b.p, statusOf(b))
		for i, keep := range choices(len(b.pending())) {
			var goesOn []act
			if i == fuse%5 {
				goesOn = acts[done:]
			}
			b.checkLeft(keep, goesOn)
		}
	})
}

// statusOf gives the error of a pool whose power may be off.
func statusOf(b *bench) api.Errno {
	if b.d.On() {
		return api.OK
	}
	return api.ErrDiskOff
}

func TestP14_3CutsBetweenCalls(t *testing.T) {
	acts := script()
	inTurns(t, len(acts)+1, func(t *testing.T, n int) {
		b := made(t, 24, 3)
		b.plays(acts[:n])
		b.checkNothing("between calls")
		// Of a transaction that is not committed nothing is there.
		x := b.begin()
		b.p.Space().Alloc(x)
		for _, keep := range choices(len(b.pending())) {
			b.checkLeft(keep, nil)
		}
	})
}

// A cut within the opening, and another within the opening of what that left.
func TestP14_3CutsWithinOpen(t *testing.T) {
	acts := script()
	inTurns(t, 24, func(t *testing.T, n int) {
		b := made(t, 24, 3)
		b.d.Fuse(20 + n*17)
		b.plays(acts)
		keeps := choices(len(b.pending()))
		for _, keep := range keeps[:min(3, len(keeps))] {
			image := b.crashed(keep)
			for range 2 {
				image = checkOpening(t, image)
			}
		}
	})
}

// checkOpening opens an image with every fuse that Open can reach. It gives what the last cut left.
func checkOpening(t *testing.T, image []byte) []byte {
	t.Helper()
	left := image
	for fuse := 0; ; fuse++ {
		d := openDisk(t, image)
		d.Fuse(fuse)
		p, e := pool.Open(d)
		if e == api.OK {
			b := &bench{t: t, d: d, p: p}
			d.Fuse(-1)
			b.checkNothing("opened behind a cut")
			return left
		}
		b := &bench{t: t, d: d}
		n := len(b.pending())
		for _, keep := range [][]int{nil, firstPlaces(n), firstPlaces(n)[n/2:], firstPlaces(n / 2)} {
			b.checkLeft(keep, nil)
			left = b.crashed(keep)
		}
	}
}

// One cut behind the other: each time it goes on from another place of the script.
func TestP14_3ManyCutsInARow(t *testing.T) {
	acts := script()
	inTurns(t, 16, func(t *testing.T, seed int) {
		chance := noise(4000, uint32(seed+5))
		roll := func(n int) int {
			chance = chance[1:]
			return int(chance[0]) % n
		}
		b, cuts := made(t, 24, 3), 0
		for cuts < 30 && len(chance) > 10 {
			if e := setSlot(b.p, api.Slot{}); e != api.OK {
				t.Fatalf("SetSlot = %d", e)
			}
			b.d.Fuse(roll(60))
			if first := roll(len(acts)); b.plays(acts[first:]) < len(acts)-first {
				cuts++
			}
			keeps := choices(len(b.pending()))
			b = opened(t, b.crashed(keeps[roll(len(keeps))]))
			b.checkNothing("behind cuts")
		}
		if cuts < 30 {
			t.Errorf("there were %d cuts alone", cuts)
		}
	})
}

// A problem that is there ahead of a cut is there behind it: a cut neither mends nor adds.
func TestP14_4ProblemsBehindACut(t *testing.T) {
	start := func() (*bench, api.Problem) {
		b := made(t, 60, 0)
		b.do(create("a", 67), write("a", 5, full(5)), snap("s", "a"), write("a", 66, full(66)))
		leak := counted(b.alloc(), 1, 0)
		b.p.Sync()
		return b, leak
	}
	for fuse := 0; ; fuse++ {
		b, leak := start()
		b.d.Fuse(fuse)
		e := vol.Do(b.p, write("s", 7, full(7)))
		if e == api.OK {
			e = b.p.Sync()
		}
		for _, keep := range choices(len(b.pending())) {
			opened(t, b.crashed(keep)).check("a leak behind a cut", leak)
		}
		if e == api.OK {
			break
		}
	}
}
