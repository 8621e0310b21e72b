package engine_test

import (
	"fmt"
	"slices"
	"testing"

	"cistern/api"
	"cistern/engine"
	"cistern/pool"
	"cistern/vol"
)

// choices gives which of n pending writes stay: all choices of a few, a fixed selection of many.
func choices(n int) [][]int {
	all := firstPlaces(n)
	if n <= 3 {
		var out [][]int
		for mask := range 1 << n {
			out = append(out, slices.DeleteFunc(slices.Clone(all), func(i int) bool { return mask>>i&1 == 0 }))
		}
		return out
	}
	out := [][]int{nil, all, all[1:], all[:n-1], all[:n/2], all[n/2:]}
	for _, chance := range noise(2, uint32(n)) {
		out = append(out, slices.DeleteFunc(slices.Clone(all), func(i int) bool { return (chance>>(i%8)^byte(i/8))&1 == 1 }))
	}
	return out
}

// act is a step of a script: a call, with its answer.
type act struct {
	what string
	call func(p *pool.Pool) api.Errno
	want api.Errno
}

func (a act) isSync() bool { return a.what == "Sync" }

func doing(o api.Op, want api.Errno) act {
	return act{"Do(" + told(o) + ")", func(p *pool.Pool) api.Errno { return vol.Do(p, o) }, want}
}

func submitting(want api.Errno, ops ...api.Op) act {
	return act{fmt.Sprintf("Submit of %d", len(ops)), func(p *pool.Pool) api.Errno { return engine.Submit(p, ops) }, want}
}

func stepping(want api.Errno) act {
	return act{"Step", func(p *pool.Pool) api.Errno {
		_, e := engine.Step(p)
		return e
	}, want}
}

func clearing(want api.Errno) act { return act{"Clear", engine.Clear, want} }

func syncing() act { return act{"Sync", (*pool.Pool).Sync, api.OK} }

// script fills the log of a pool of 24 more than once, with programs of all kinds that are done and aborted, with operations, and
// with Syncs.
func script() []act {
	var acts []act
	add := func(more ...act) { acts = append(acts, more...) }
	do := func(ops ...api.Op) {
		for _, o := range ops {
			add(doing(o, api.OK))
		}
	}
	step := func(n int) {
		for range n {
			add(stepping(api.OK))
		}
	}
	do(create("a", 67), write("a", 5, full(5)), write("a", 66, full(66)))
	add(stepping(api.ErrEngineIdle), clearing(api.OK))
	add(submitting(api.OK, snap("s", "a"), fill("a", 4, 7), discard("a", 66, 67), create("n", 9), fill("n", 0, 2)))
	step(2)
	add(syncing(), doing(create("z", 1), api.ErrVolBusy))
	step(2)
	add(submitting(api.ErrEngineBusy), clearing(api.ErrEngineBusy))
	step(1)
	add(stepping(api.ErrEngineIdle))
	do(write("s", 66, noise(512, 1)), extend(26))
	add(submitting(api.OK), syncing())
	// As many operations as may be, of which the third has no room.
	great := append(program(clone("c", "s"), rename("c", "~c"), fill("~c", 10, 42)), longest()[3:]...)
	add(submitting(api.OK, great...))
	step(3)
	add(stepping(api.ErrEngineIdle), submitting(api.ErrOpMany, many(121)...))
	do(write("~c", 5, noise(512, 2)))
	add(clearing(api.OK))
	add(submitting(api.OK, restore("n", "~c"), resize("n", 6), remove("~c"), remove("s")), syncing())
	step(4)
	add(submitting(api.OK, remove("zz"), remove("n")))
	step(1)
	add(submitting(api.OK, resize("a", 20)))
	step(1)
	add(clearing(api.OK), syncing(), syncing())
	for i := range 9 {
		do(write("a", i, noise(512, uint32(10+i))))
		add(submitting(api.OK, discard("a", i, i+1), fill("a", i, i+2)))
		step(2)
	}
	return acts
}

// history is what a pool tells behind each of the calls that were done, and what may be found of them behind a cut.
type history struct {
	states []string // by how many were done
	acts   []act    // what is still to be done
	taken  int      // how many were done
	called int      // the same, or one more: that in which the power went off
	lasts  int      // how many of them were synced, or found
}

// may gives the states of which a cut leaves one.
func (h *history) may() []string { return h.states[h.lasts : h.called+1] }

// begun gives a new pool of 24, on a disk that holds 27.
func begun(t *testing.T) *bench {
	t.Helper()
	return made(t, 24, 3)
}

// whole gives the history of a script that is not begun.
func whole(t *testing.T) *history {
	t.Helper()
	b := begun(t)
	h := &history{states: []string{b.tells()}, acts: script()}
	for _, a := range h.acts {
		if e := a.call(b.p); e != a.want {
			t.Fatalf("%s = %d; want %d", a.what, e, a.want)
		}
		if a.want == api.OK && !a.isSync() {
			h.states = append(h.states, b.tells())
		}
	}
	return h
}

// fresh gives the same history, from its beginning.
func (h *history) fresh() *history { return &history{states: h.states, acts: h.acts} }

// plays goes on with the script, until the power goes off or so many acts are done. It tells whether the power is on.
func (h *history) plays(b *bench, most int) bool {
	b.t.Helper()
	for range min(most, len(h.acts)) {
		a := h.acts[0]
		e := a.call(b.p)
		switch {
		case e == api.ErrDiskOff:
			if !a.isSync() && a.want == api.OK {
				h.called++
			}
			if b.d.On() {
				b.t.Fatalf("%s answers ErrDiskOff though the power is on", a.what)
			}
			checkAll(b.t, b.p, api.ErrDiskOff)
			return false
		case e != a.want:
			b.t.Fatalf("%s = %d; want %d", a.what, e, a.want)
		case a.isSync():
			h.lasts = h.taken
		case e == api.OK:
			h.taken++
			h.called = h.taken
		}
		h.acts = h.acts[1:]
	}
	return true
}

// goesBack says that behind a cut the pool is that behind so many calls: from there on the script is done again.
func (h *history) goesBack(n int) {
	h.taken, h.called, h.lasts = n, n, n
	h.acts = script()
	for i := 0; i < n; h.acts = h.acts[1:] {
		if !h.acts[0].isSync() && h.acts[0].want == api.OK {
			i++
		}
	}
}

// checkCuts opens what any of the pending writes leave, and holds that it may be so.
func (h *history) checkCuts(b *bench, within bool) {
	b.t.Helper()
	for i, keep := range choices(b.pending()) {
		image := b.crashed(keep)
		c := found(b.t, diskOf(b.t, image))
		after := c.tells()
		n := slices.Index(h.may(), after)
		if n < 0 {
			b.t.Fatalf("behind a cut that %d of %d writes survive, %d calls done, there is a pool that may not be: %s", len(keep), b.pending(), h.taken, after)
		}
		if i == 1 {
			checkLasts(c, after)
		}
		if within && i%4 == 0 {
			checkCutsWithinOpen(b.t, image, h.may()[n:])
		}
	}
}

// checkLasts holds that what was found when a pool was opened lasts, and is found again over the same disk.
func checkLasts(c *bench, after string) {
	c.t.Helper()
	if got := c.lasting().tells(); got != after {
		c.t.Fatalf("what was found does not last: %s; want %s", got, after)
	}
	c.again()
	if got := c.tells(); got != after {
		c.t.Fatalf("opened anew there is another pool: %s; want %s", got, after)
	}
}

// checkCutsWithinOpen opens an image with every fuse that Open can reach, and again what is left then: it is the same pool, or
// one of those with more of the calls.
func checkCutsWithinOpen(t *testing.T, image []byte, may []string) {
	t.Helper()
	for fuse := 0; ; fuse++ {
		d := diskOf(t, image)
		d.Fuse(fuse)
		p, e := pool.Open(d)
		if e == api.OK && d.On() {
			return
		}
		if p != nil || e != api.ErrDiskOff || d.On() {
			t.Fatalf("Open with a fuse of %d = a pool: %v, %d", fuse, p != nil, e)
		}
		b := &bench{t: t, d: d}
		n := b.pending()
		all := firstPlaces(n)
		for _, keep := range [][]int{nil, all, all[n/2:], all[:n/2]} {
			if got := found(t, diskOf(t, b.crashed(keep))).tells(); !slices.Contains(may, got) {
				t.Fatalf("behind a cut within Open of which %d of %d writes survive there is a pool that may not be: %s", len(keep), n, got)
			}
		}
	}
}

// inTurns does something so many times, some of them side by side: each has its own pool.
func inTurns(t *testing.T, count int, do func(t *testing.T, n int)) {
	t.Helper()
	const lanes = 8
	for lane := range lanes {
		t.Run(fmt.Sprint(lane), func(t *testing.T) {
			t.Parallel()
			for n := lane; n < count && !t.Failed(); n += lanes {
				do(t, n)
			}
		})
	}
}

// writesOf tells about how many writes and flushes a script has.
func writesOf(t *testing.T, h *history) int {
	t.Helper()
	for fuse := 50; ; fuse += 50 {
		b := begun(t)
		b.d.Fuse(fuse)
		if h.fresh().plays(b, len(h.acts)) {
			return fuse
		}
	}
}

// The power goes off at every write and barrier of every call.
func TestP17_5CutsAtEveryWriteAndBarrier(t *testing.T) {
	h := whole(t)
	count := writesOf(t, h)
	if count < 300 {
		t.Errorf("the script has %d writes and flushes alone", count)
	}
	inTurns(t, count, func(t *testing.T, fuse int) {
		b, h := begun(t), h.fresh()
		b.d.Fuse(fuse)
		h.plays(b, len(h.acts))
		h.checkCuts(b, fuse%53 == 0)
	})
}

func TestP17_5CutsBetweenCalls(t *testing.T) {
	h := whole(t)
	inTurns(t, len(h.acts)+1, func(t *testing.T, n int) {
		b, h := begun(t), h.fresh()
		h.plays(b, n)
		h.checkCuts(b, n%13 == 1)
		// Of what is refused, and of a transaction that is not committed, nothing is there.
		b.checkDo(write("A", 5, full(1)), map[bool]api.Errno{true: api.ErrVolBusy, false: api.ErrActName}[isRunning(b)])
		x := b.begin()
		if e := b.p.SetSlot(x, aborted(0, 7, remove("zz"))); e != api.OK {
			t.Fatalf("SetSlot(t) = %d", e)
		}
		h.checkCuts(b, false)
	})
}

func isRunning(b *bench) bool {
	b.t.Helper()
	s, e := engine.State(b.p)
	if e != api.OK {
		b.t.Fatalf("State() = %d", e)
	}
	return s.State == api.SlotRunning
}

// One cut behind the other: what is found each time lasts, and the script goes on behind it.
func TestP17_5ManyCutsInARow(t *testing.T) {
	h := whole(t)
	inTurns(t, 16, func(t *testing.T, seed int) {
		d := &dice{seed: uint32(seed + 5)}
		b, h := begun(t), h.fresh()
		cuts := 0
		for len(h.acts) > 0 && cuts < 500 {
			b.d.Fuse(d.roll(60))
			h.plays(b, len(h.acts))
			keeps := choices(b.pending())
			b = found(t, diskOf(t, b.crashed(keeps[d.roll(len(keeps))])))
			n := slices.Index(h.may(), b.tells())
			if n < 0 {
				t.Fatalf("behind %d cuts there is a pool that may not be", cuts)
			}
			h.goesBack(h.lasts + n)
			cuts++
		}
		if len(h.acts) > 0 || cuts < 4 {
			t.Errorf("%d acts are left behind %d cuts", len(h.acts), cuts)
		}
	})
}

// In one call the power goes off, at every write: the pool is as it was, or as it shall be, and both are met.
func TestP17_5NoCallIsThereInPart(t *testing.T) {
	type scene struct {
		slot api.Slot
		act
	}
	scenes := []scene{
		{api.Slot{}, submitting(api.OK, many(120)...)}, {ended(many(120)...), submitting(api.OK, longest()...)},
		{aborted(3, 9, longest()...), submitting(api.OK)}, {ended(remove("zz")), clearing(api.OK)}, {aborted(119, 64, longest()...), clearing(api.OK)},
		{running(60, append(append(longest()[:60], fill("a", 1, 33)), longest()[61:]...)...), stepping(api.OK)},
		{running(0, remove("zz")), stepping(api.OK)}, {running(119, longest()...), stepping(api.OK)}, {running(7, many(120)...), stepping(api.OK)},
	}
	for _, o := range []api.Op{
		create("n", 100), snap("n", "a"), clone("n", "s"), resize("a", 4), rename("a", "z"), remove("c"), restore("c", "s"),
		discard("a", 1, 65), fill("e", 18, 50), fill("a", 60, 66),
	} {
		scenes = append(scenes, scene{running(0, o), stepping(api.OK)})
	}
	inTurns(t, len(scenes), func(t *testing.T, i int) {
		s := scenes[i]
		met := map[string]int{}
		var before, after string
		for fuse := 0; ; fuse++ {
			b := made(t, 70, 2)
			b.do(create("a", 70), write("a", 0, full(1)), write("a", 64, full(2)), snap("s", "a"), clone("c", "a"), write("c", 3, full(3)), create("e", 60))
			b.setSlot(s.slot)
			b.sync()
			before = b.tells()
			b.d.Fuse(fuse)
			e := s.call(b.p)
			for _, keep := range choices(b.pending()) {
				met[found(t, diskOf(t, b.crashed(keep))).tells()]++
			}
			if e == api.OK {
				after = b.tells()
				break
			}
			if e != api.ErrDiskOff || b.d.On() {
				t.Fatalf("%s with a fuse of %d = %d, on: %v", s.what, fuse, e, b.d.On())
			}
		}
		if len(met) != 2 || met[before] == 0 || met[after] == 0 {
			t.Errorf("%s of the slot %s: the cuts leave %d states; want both what was ahead and what is behind", s.what, shown(s.slot), len(met))
		}
	})
}

// courses are programs over a used pool: some come to their end, some are aborted.
func courses() map[string][]api.Op {
	var eight []api.Op
	for i := range 8 {
		eight = append(eight, create("v"+string(rune('a'+i)), 1+i), fill("v"+string(rune('a'+i)), 0, 1))
	}
	return map[string][]api.Op{
		"none":                  nil,
		"many creates":          eight,
		"all kinds":             {create("n", 70), fill("n", 60, 70), snap("m", "n"), discard("n", 64, 66), rename("s", "~s"), resize("m", 65), restore("c", "m"), clone("k", "c"), remove("p"), remove("k")},
		"refused at the end":    {snap("m", "a"), remove("m"), snap("m", "a"), remove("m"), remove("m"), remove("c")},
		"refused in the middle": {fill("e", 0, 30), fill("e", 30, 50), remove("a"), remove("e")},
		"no room":               {fill("a", 2, 34), fill("a", 34, 66), fill("a", 66, 98), fill("a", 98, 130), snap("m", "a"), fill("m", 0, 1), discard("m", 0, 64), discard("m", 70, 71), create("n", 5)},
		"as many as may be":     append(many(60), append(program(remove("e"), create("e", 5)), many(58)...)...),
		"each twice":            {rename("a", "b"), rename("b", "a"), rename("a", "b"), rename("b", "a"), clone("m", "c"), remove("m"), clone("m", "c"), remove("m")},
	}
}

// runs goes on with a program until a step says that it does not run, or is refused.
func (b *bench) runs(most int) (steps int, e api.Errno) {
	for ; steps < most; steps++ {
		s, e := engine.Step(b.p)
		if e != api.OK {
			return steps, e
		}
		if s.State != api.SlotRunning {
			return steps + 1, api.OK
		}
	}
	return steps, api.OK
}

// A program that lasts, cut any number of times and gone on with, comes to the same as without a cut.
func TestP17_6GoingOn(t *testing.T) {
	all := courses()
	var names []string
	for name := range all {
		names = append(names, name)
	}
	slices.Sort(names)
	inTurns(t, 12*len(names), func(t *testing.T, n int) {
		ops := all[names[n%len(names)]]
		b := used(t)
		b.take(120)
		b.submit(ops...)
		c := b.twin()
		steps, e := c.runs(1000)
		if steps > len(ops) || e != api.OK && e != api.ErrEngineIdle {
			t.Fatalf("%d operations take %d steps, %d", len(ops), steps, e)
		}
		want := c.tells()
		d := &dice{seed: uint32(n)}
		for cuts := range 2 + n%5 {
			b.d.Fuse(d.roll(10 + 6*len(ops)))
			b.runs(d.roll(len(ops) + 2))
			if d.roll(4) == 0 {
				b.p.Sync()
			}
			keeps := choices(b.pending())
			b = found(t, diskOf(t, b.crashed(keeps[d.roll(len(keeps))])))
			s, e := engine.State(b.p)
			if e != api.OK || len(s.Ops) != len(ops) {
				t.Fatalf("behind %d cuts State() = %s, %d", cuts+1, shown(s), e)
			}
		}
		if steps, e := b.runs(1000); steps > len(ops) || e != api.OK && e != api.ErrEngineIdle {
			t.Fatalf("behind the last cut %d operations take %d steps, %d", len(ops), steps, e)
		}
		if got := b.tells(); got != want {
			t.Errorf("%s: behind cuts the pool is %s; want %s", names[n%len(names)], got, want)
		}
	})
}

// The power goes off at every write of a run, whatever survives: the program goes on from there to the same end.
func TestP17_6GoingOnFromEveryPlace(t *testing.T) {
	ops := courses()["refused at the end"]
	base := made(t, 30, 0)
	base.do(create("a", 67), write("a", 5, full(5)), clone("c", "a"), write("c", 66, full(6)))
	base.submit(ops...)
	base.sync()
	image := base.crashed(nil)
	c := base.twin()
	states := []string{c.tells()}
	for c.tells(); isRunning(c); states = append(states, c.tells()) {
		c.runs(1)
	}
	want := states[len(states)-1]
	met := map[string]int{}
	for fuse := 0; ; fuse++ {
		b := found(t, diskOf(t, image))
		b.d.Fuse(fuse)
		_, e := b.runs(1000)
		for _, keep := range choices(b.pending()) {
			c := found(t, diskOf(t, b.crashed(keep)))
			left := c.tells()
			if !slices.Contains(states, left) {
				t.Fatalf("behind a cut at %d there is a pool that may not be: %s", fuse, left)
			}
			met[left]++
			c.runs(1000)
			if got := c.tells(); got != want {
				t.Fatalf("gone on behind a cut at %d the pool is %s; want %s", fuse, got, want)
			}
		}
		if e == api.OK {
			break
		}
	}
	if len(met) != len(ops) {
		t.Errorf("the cuts leave %d states", len(met))
	}
}
