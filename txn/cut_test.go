package txn_test

import (
	"bytes"
	"maps"
	"slices"
	"testing"

	"cistern/api"
	"cistern/cache"
	"cistern/disk"
	"cistern/journal"
	"cistern/txn"
)

// The journal of the worlds: the home blocks are 0 to 3 and 20 to 39, and a transaction may have 4 of them.
const (
	worldFrom   = 4
	worldBlocks = 16
)

// choices gives which of n pending writes stay: all choices of a few, a fixed selection of many.
func choices(n int) [][]int {
	if n <= 5 {
		return allChoices(n)
	}
	all := firstPlaces(n)
	out := [][]int{nil, all}
	for i := range n {
		out = append(out, all[i:i+1], slices.Delete(slices.Clone(all), i, i+1))
		if i > 1 {
			out = append(out, all[:i], all[i:])
		}
	}
	for _, chance := range noise(12, uint32(n)) {
		out = append(out, slices.DeleteFunc(slices.Clone(all), func(i int) bool { return (chance>>(i%8)^byte(i/8))&1 == 1 }))
	}
	return out
}

func allChoices(n int) [][]int {
	var out [][]int
	for mask := range 1 << n {
		out = append(out, slices.DeleteFunc(firstPlaces(n), func(i int) bool { return mask>>i&1 == 0 }))
	}
	return out
}

// world is a store, and what the document says that is to be found of it behind a cut.
type world struct {
	*bench
	base  []byte           // what the disk held at first
	log   []map[int][]byte // what was committed, and behind it what was in the Commit that the power went off in
	taken int              // how many of them answered OK
	lasts int              // how many of these were flushed, or found
}

// worldOf gives a new store over a disk of that image.
func worldOf(t *testing.T, image []byte) *world {
	t.Helper()
	d, e := disk.Open(image)
	if e != api.OK {
		t.Fatalf("disk.Open = %d", e)
	}
	return &world{bench: laidOn(t, d, worldFrom, worldBlocks), base: image}
}

// step is something that is done with a store; it tells whether the power went off in it.
type step func(w *world) api.Errno

// brings is a step: a transaction of these blocks, each with noise of its own.
func brings(seed int, blocks ...int) step {
	return func(w *world) api.Errno {
		x, e := w.s.Begin()
		if e != api.OK {
			return e
		}
		return w.commitAll(x, noises(seed, blocks))
	}
}

func noises(seed int, blocks []int) map[int][]byte {
	out := map[int][]byte{}
	for i, at := range blocks {
		out[at] = noise(512, uint32(seed*100+i))
	}
	return out
}

// commitAll writes each of these blocks twice, and commits them.
func (w *world) commitAll(x *txn.Txn, writes map[int][]byte) api.Errno {
	w.t.Helper()
	for _, at := range slices.Sorted(maps.Keys(writes)) {
		checkWrite(w.t, x, at, full('W'), api.OK)
		checkWrite(w.t, x, at, writes[at], api.OK)
	}
	e := x.Commit()
	if len(writes) == 0 {
		checkAnswer(w.t, "Commit() of nothing", e, api.OK)
		return e
	}
	if e != api.OK && e != api.ErrDiskOff {
		w.t.Fatalf("Commit() of %d blocks = %d", len(writes), e)
	}
	w.log = append(slices.Clone(w.log[:w.taken]), writes)
	if e == api.OK {
		w.taken++
	}
	return e
}

// bringsMarked is a step: a transaction of these blocks that has gone back over some others, and over more than may be.
func bringsMarked(seed int, blocks ...int) step {
	return func(w *world) api.Errno {
		x, e := w.s.Begin()
		if e != api.OK {
			return e
		}
		writes := noises(seed, blocks)
		for _, at := range blocks {
			checkWrite(w.t, x, at, writes[at], api.OK)
		}
		mark, e := x.Mark()
		checkAnswer(w.t, "Mark()", e, api.OK)
		for at := 20; at < 40; at++ {
			checkWrite(w.t, x, at, full('M'), api.OK)
		}
		checkBack(w.t, x, mark, api.OK)
		return w.commitAll(x, writes)
	}
}

// abandons is a step: a transaction that leaves nothing, for it is aborted, or refused because it is too large.
func abandons(count int) step {
	return func(w *world) api.Errno {
		x, e := w.s.Begin()
		if e != api.OK {
			return e
		}
		for i := range count {
			checkWrite(w.t, x, 20+i, full('L'), api.OK)
		}
		if count > 4 {
			checkAnswer(w.t, "Commit() of too many blocks", x.Commit(), api.ErrJournalLarge)
			return api.OK
		}
		return x.Abort()
	}
}

// flush is a step.
func (w *world) flush() api.Errno { return w.settled(w.s.Flush()) }

// reopen is a step: the journal is opened again over the same cache, and a store over it.
func (w *world) reopen() api.Errno {
	j, e := journal.Open(w.c, worldFrom, worldBlocks)
	if e == api.OK {
		w.bench = &bench{t: w.t, d: w.d, c: w.c, j: j, s: openStore(w.t, j)}
	}
	return w.settled(e)
}

// begins is a step: a transaction stays open, with writes.
func begins(w *world) api.Errno {
	x, e := w.s.Begin()
	if e != api.OK {
		return e
	}
	for _, at := range []int{0, 1, 20, 39} {
		checkWrite(w.t, x, at, full('O'), api.OK)
	}
	return api.OK
}

func (w *world) settled(e api.Errno) api.Errno {
	w.t.Helper()
	if e != api.OK && e != api.ErrDiskOff {
		w.t.Fatalf("a call that lets all last answers %d", e)
	}
	if e == api.OK {
		w.lasts = w.taken
	}
	return e
}

// play does the steps up to the one in which the power goes off, and answers whether none was such.
func (w *world) play(steps []step) bool {
	w.t.Helper()
	for _, s := range steps {
		e := s(w)
		if e == api.ErrDiskOff && !w.d.On() {
			return false
		}
		if e != api.OK {
			w.t.Fatalf("a step answers %d", e)
		}
	}
	return true
}

// check holds all that is committed against the document.
func (w *world) check() {
	w.t.Helper()
	w.checkSeq(w.taken)
	want := bytes.Clone(w.base)
	for _, writes := range w.log[:w.taken] {
		for at, data := range writes {
			copy(want[at*512:], data)
		}
	}
	for at := range len(want) / 512 {
		if at >= worldFrom && at < worldFrom+worldBlocks {
			continue
		}
		if got, e := w.s.Read(at); e != api.OK || !bytes.Equal(got, want[at*512:(at+1)*512]) {
			w.t.Fatalf("behind %d commits Read(%d) = %d bytes, %d, others than wanted", w.taken, at, len(got), e)
		}
	}
}

// after opens what a cut has left, and checks that it may be so. Where the fuse is reached within the journal's
// opening, it answers that disk's world and false.
func (w *world) after(image []byte, fuse int) (*world, bool) {
	w.t.Helper()
	d, e := disk.Open(image)
	checkAnswer(w.t, "disk.Open", e, api.OK)
	c, e := cache.New(d, 8)
	checkAnswer(w.t, "cache.New", e, api.OK)
	x := &world{bench: &bench{t: w.t, d: d, c: c}, base: w.base, log: w.log, taken: w.taken, lasts: w.lasts}
	checkAnswer(w.t, "Fuse", d.Fuse(fuse), api.OK)
	j, e := journal.Open(c, worldFrom, worldBlocks)
	if e == api.ErrDiskOff && !d.On() {
		return x, false
	}
	checkAnswer(w.t, "journal.Open", e, api.OK)
	checkAnswer(w.t, "Fuse(-1)", d.Fuse(-1), api.OK)
	x.bench = &bench{t: w.t, d: d, c: c, j: j, s: openStore(w.t, j)}
	n, e := j.Seq()
	if e != api.OK || n < w.lasts || n > len(w.log) {
		w.t.Fatalf("behind a cut there are %d commits, %d; want %d to %d", n, e, w.lasts, len(w.log))
	}
	x.log, x.taken, x.lasts = w.log[:n:n], n, n
	x.check()
	return x, true
}

// cutsWithinOpening opens an image with every fuse that the journal's opening can reach, and again what is left then.
func (w *world) cutsWithinOpening(image []byte) {
	w.t.Helper()
	for fuse := 0; ; fuse++ {
		x, whole := w.after(image, fuse)
		if whole {
			return
		}
		pending := len(x.pending())
		for _, keep := range [][]int{nil, firstPlaces(pending), firstPlaces(pending)[pending/2:]} {
			y, _ := w.after(x.image(keep), -1)
			y.play([]step{brings(90+fuse, 0, 20), (*world).flush})
			y.check()
			z, _ := y.after(y.image(nil), -1)
			z.check()
		}
	}
}

// cuts goes through what any of the pending writes leave, and uses it.
func (w *world) cuts(turn int) {
	w.t.Helper()
	for i, keep := range choices(len(w.pending())) {
		image := w.image(keep)
		x, _ := w.after(image, -1)
		x.play([]step{brings(80, 1, 20), abandons(3), brings(81, 20)})
		x.check()
		x.after(x.image(nil), -1)
		x.after(x.whole(), -1)
		if i%9 == turn%9 {
			w.cutsWithinOpening(image)
		}
	}
}

// script fills a log of 16 blocks more than twice.
func script() []step {
	return []step{
		brings(1, 1, 20),
		abandons(4),
		(*world).flush,
		brings(2, 39, 20),
		brings(3),
		bringsMarked(4, 3, 2, 1, 0),
		abandons(5),
		brings(5, 30),
		bringsMarked(6),
		(*world).flush,
		(*world).flush,
		brings(7, 23, 22, 21, 20),
		brings(8, 22, 23, 24, 25),
		brings(9, 24, 25, 26, 27),
		brings(10, 26, 27, 0, 1),
		(*world).reopen,
		brings(11, 1),
		(*world).flush,
		brings(12, 20, 1),
		begins,
	}
}

func TestP5_12CutsBetweenCalls(t *testing.T) {
	steps := script()
	for n := range len(steps) + 1 {
		w := worldOf(t, noise(40*512, 9))
		w.play(steps[:n])
		w.check()
		w.cuts(n)
	}
}

func TestP5_12CutsWhileATransactionIsOpen(t *testing.T) {
	steps := script()
	for n := range len(steps) {
		w := worldOf(t, noise(40*512, 9))
		w.play(steps[:n])
		w.play([]step{begins})
		w.check()
		w.cuts(n)
	}
}

func TestP5_12CutsWithinEveryCallAtEveryFuse(t *testing.T) {
	steps := script()
	for fuse := 0; ; fuse++ {
		w := worldOf(t, noise(40*512, 9))
		checkAnswer(t, "Fuse", w.d.Fuse(fuse), api.OK)
		if w.play(steps) {
			if fuse < 40 {
				t.Errorf("the script has %d writes and flushes alone", fuse)
			}
			return
		}
		checkNoBegin(t, w.s, api.ErrDiskOff)
		checkRead(t, w.s, 20, nil, api.ErrDiskOff)
		w.cuts(fuse)
	}
}

func TestP5_12ManyCutsInARow(t *testing.T) {
	for seed := range uint32(10) {
		w := worldOf(t, noise(40*512, seed))
		chance := noise(3*200, 1000+seed)
		for i := 0; i < len(chance); i += 3 {
			a, b, c := int(chance[i]), int(chance[i+1]), int(chance[i+2])
			s := bringsMarked(i, 20+c%20, c%4, 20+b%20)
			switch checkAnswer(t, "Fuse", w.d.Fuse(b%30), api.OK); a % 8 {
			case 0:
				s = (*world).flush
			case 1:
				s = (*world).reopen
			case 2:
				s = abandons(a / 8 % 7)
			}
			if w.play([]step{s}) && a%16 < 13 {
				checkAnswer(t, "Fuse(-1)", w.d.Fuse(-1), api.OK)
				w.check()
				continue
			}
			keeps := choices(len(w.pending()))
			w, _ = w.after(w.image(keeps[c%len(keeps)]), -1)
		}
	}
}

// In one Commit the power goes off: the store holds all of its blocks afterwards, or none.
func TestP5_12NoTransactionIsThereInPart(t *testing.T) {
	found := map[byte]int{}
	for fuse := range 6 {
		b := laid(t, 40, worldFrom, worldBlocks)
		b.commit(20, 'A', 21, 'A', 22, 'A', 39, 'A')
		checkAnswer(t, "Flush()", b.s.Flush(), api.OK)
		x := b.begin()
		b.write(x, 39, 'B', 22, 'B', 21, 'B', 20, 'B')
		checkAnswer(t, "Fuse", b.d.Fuse(fuse), api.OK)
		e := x.Commit()
		if off := e == api.ErrDiskOff; off == b.d.On() || !off && e != api.OK {
			t.Fatalf("with the fuse at %d Commit() = %d, on: %v", fuse, e, b.d.On())
		}
		for _, keep := range allChoices(len(b.pending())) {
			s := again(t, b.image(keep), worldFrom, worldBlocks).s
			one, _ := s.Read(20)
			found[one[0]]++
			for _, at := range []int{20, 21, 22, 39} {
				checkRead(t, s, at, full(one[0]), api.OK)
			}
		}
	}
	if names := slices.Sorted(maps.Keys(found)); !slices.Equal(names, []byte{'A', 'B'}) {
		t.Errorf("the cuts leave %q; want both what was ahead and what is behind", names)
	}
}
