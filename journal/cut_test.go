package journal_test

import (
	"bytes"
	"slices"
	"testing"

	"cistern/api"
	"cistern/cache"
	"cistern/disk"
	"cistern/field"
	"cistern/journal"
)

// choices gives which of n pending writes stay: all choices of a few, a fixed selection of many.
func choices(n int) [][]int {
	if n <= 5 {
		return allChoices(n)
	}
	all := firstPlaces(n)
	out := [][]int{nil, all}
	for i := range n {
		out = append(out, all[i:i+1], slices.Delete(slices.Clone(all), i, i+1))
		if i > 1 {
			out = append(out, all[:i], all[i:])
		}
	}
	for _, chance := range noise(12, uint32(n)) {
		out = append(out, slices.DeleteFunc(slices.Clone(all), func(i int) bool { return (chance>>(i%8)^byte(i/8))&1 == 1 }))
	}
	return out
}

func allChoices(n int) [][]int {
	var out [][]int
	for mask := range 1 << n {
		out = append(out, slices.DeleteFunc(firstPlaces(n), func(i int) bool { return mask>>i&1 == 0 }))
	}
	return out
}

// fewChoices is for cuts behind cuts.
func fewChoices(n int) [][]int {
	if n <= 2 {
		return allChoices(n)
	}
	return [][]int{nil, firstPlaces(n), firstPlaces(n)[n/2:], firstPlaces(n)[1:], {n - 1}}
}

// world is a journal, and what the document says that is to be found of it.
type world struct {
	t      *testing.T
	d      *disk.Disk
	c      *cache.Cache
	j      *journal.Journal
	from   int
	blocks int
	base   []byte      // what the disk held at Format
	log    [][]api.Put // the transactions that are taken, and behind them the one that the power went off in
	taken  int
	lasts  int
	apart  func(at int) bool // blocks of which nothing is said, or nil
}

// begin formats a journal over a disk of that image, and opens it.
func begin(t *testing.T, image []byte, from int, blocks int) *world {
	t.Helper()
	w := &world{t: t, d: openDisk(t, image), from: from, blocks: blocks, base: image}
	w.c = newCache(t, w.d, 8)
	checkFormat(t, w.c, from, blocks, api.OK)
	w.j = openJournal(t, w.c, from, blocks)
	return w
}

func (w *world) append(list []api.Put) api.Errno {
	w.t.Helper()
	e := w.j.Append(list)
	if e != api.OK && e != api.ErrDiskOff {
		w.t.Fatalf("Append(%d puts) = %d", len(list), e)
	}
	w.log = append(slices.Clone(w.log[:w.taken]), list)
	if e == api.OK {
		w.taken++
	}
	return e
}

func (w *world) flush() api.Errno { return w.settled(w.j.Flush()) }

func (w *world) checkpoint() api.Errno { return w.settled(w.j.Checkpoint()) }

func (w *world) reopen() api.Errno {
	j, e := journal.Open(w.c, w.from, w.blocks)
	w.j = j
	return w.settled(e)
}

// settled is what a call did that makes all last.
func (w *world) settled(e api.Errno) api.Errno {
	w.t.Helper()
	if e != api.OK && e != api.ErrDiskOff {
		w.t.Fatalf("a call that lets all last answers %d", e)
	}
	if e == api.OK {
		w.lasts = w.taken
	}
	return e
}

// behind gives what the home blocks hold behind the first n transactions.
func (w *world) behind(n int) []byte {
	image := bytes.Clone(w.base)
	for _, list := range w.log[:n] {
		for _, p := range list {
			copy(image[p.At*512:], p.Data)
		}
	}
	return image
}

// check holds all that the journal tells against the document.
func (w *world) check() {
	w.t.Helper()
	n, e := w.j.Seq()
	if e != api.OK || n != w.taken {
		w.t.Fatalf("Seq() = %d, %d; want %d", n, e, w.taken)
	}
	want := w.behind(n)
	for at := range len(want) / 512 {
		if at >= w.from && at < w.from+w.blocks || w.apart != nil && w.apart(at) {
			continue
		}
		if got, e := w.j.Read(at); e != api.OK || !bytes.Equal(got, blockOf(want, at)) {
			w.t.Fatalf("behind %d transactions Read(%d) = %d bytes, %d, others than wanted", n, at, len(got), e)
		}
	}
}

// image gives what a cut now leaves, if just these writes stay.
func (w *world) image(keep []int) []byte { return crash(w.t, w.d, keep) }

func (w *world) choices(of func(int) [][]int) [][]int {
	pending, _ := w.d.Pending()
	return of(len(pending))
}

// after opens the journal of an image that a cut left, and checks that it is one that may be.
// Where fuse is reached within Open, it answers the world in that state and false.
func (w *world) after(image []byte, fuse int) (*world, bool) {
	w.t.Helper()
	x := &world{t: w.t, d: openDisk(w.t, image), from: w.from, blocks: w.blocks, base: w.base, log: w.log, taken: w.taken, lasts: w.lasts, apart: w.apart}
	x.c = newCache(w.t, x.d, 8)
	x.d.Fuse(fuse)
	j, e := journal.Open(x.c, x.from, x.blocks)
	if e == api.ErrDiskOff && !x.d.On() && j == nil {
		return x, false
	}
	x.d.Fuse(-1)
	if e != api.OK || j == nil {
		w.t.Fatalf("Open behind a cut = a journal: %v, %d", j != nil, e)
	}
	n, e := j.Seq()
	if e != api.OK || n < w.lasts || n > len(w.log) {
		w.t.Fatalf("behind a cut Seq() = %d, %d; want %d to %d", n, e, w.lasts, len(w.log))
	}
	x.j, x.log, x.taken, x.lasts = j, w.log[:n:n], n, n
	x.check()
	return x, true
}

// cutsWithinOpen opens an image with every fuse that Open can reach, and again what is left then.
func (w *world) cutsWithinOpen(image []byte, depth int) {
	w.t.Helper()
	for fuse := 0; ; fuse++ {
		x, whole := w.after(image, fuse)
		if whole {
			x.append([]api.Put{{At: 0, Data: noise(512, uint32(fuse))}})
			x.check()
			return
		}
		for _, keep := range x.choices(fewChoices) {
			left := x.image(keep)
			y, _ := w.after(left, -1)
			y.check()
			if depth > 0 {
				w.cutsWithinOpen(left, depth-1)
			}
		}
	}
}

// step is one call of a script.
type step func(w *world) api.Errno

// brings is a step: a transaction whose blocks are noise of their own.
func brings(seed int, blocks ...int) step {
	var list []api.Put
	for i, at := range blocks {
		list = append(list, api.Put{At: at, Data: noise(512, uint32(seed*100+i))})
	}
	return func(w *world) api.Errno { return w.append(list) }
}

// script has transactions of no block, of one, of a block that stands twice and of as many as Most tells;
// it fills a log of 16 blocks more than twice.
func script() []step {
	return []step{
		brings(1, 1, 20),
		(*world).flush,
		brings(2, 20, 39, 20),
		brings(3),
		brings(4, 0, 1, 2, 3),
		(*world).checkpoint,
		brings(5, 30),
		brings(6, 30, 31, 1),
		(*world).checkpoint,
		(*world).checkpoint,
		brings(7, 20, 21, 22, 23),
		brings(8, 22, 23, 24, 25),
		brings(9, 24, 25, 26, 27),
		brings(10, 26, 27, 0, 1),
		(*world).reopen,
		brings(11, 1),
		(*world).flush,
		brings(12, 1, 20),
	}
}

// play does the steps up to the one in which the power goes off, and answers whether none was such.
func play(w *world, steps []step) bool {
	for _, s := range steps {
		if s(w) == api.ErrDiskOff {
			return false
		}
	}
	return true
}

func TestP4_9CutsBetweenCalls(t *testing.T) {
	steps := script()
	for n := range len(steps) + 1 {
		w := begin(t, noise(40*512, 9), 4, 16)
		play(w, steps[:n])
		w.check()
		for _, keep := range w.choices(choices) {
			x, _ := w.after(w.image(keep), -1)
			play(x, steps[:5])
			x.check()
		}
	}
}

func TestP4_9CutsWithinEveryCallAtEveryFuse(t *testing.T) {
	steps := script()
	for fuse := 0; ; fuse++ {
		w := begin(t, noise(40*512, 9), 4, 16)
		w.d.Fuse(fuse)
		if play(w, steps) {
			if fuse < 40 {
				t.Errorf("the script has %d writes and flushes alone", fuse)
			}
			return
		}
		for i, keep := range w.choices(choices) {
			image := w.image(keep)
			x, _ := w.after(image, -1)
			play(x, steps[2:5])
			x.check()
			if i%7 == fuse%7 {
				w.cutsWithinOpen(image, 0)
			}
		}
	}
}

func TestP4_9CutsWithinOpenAgainAndAgain(t *testing.T) {
	w := begin(t, noise(40*512, 9), 4, 16)
	play(w, script()[:4])
	for i, keep := range w.choices(choices) {
		w.cutsWithinOpen(w.image(keep), 1+i%8/7)
	}
}

// A lost transaction leaves some of its blocks; the next one, of the same shape, is written over them and loses some
// too. What is left of both together is no transaction.
func TestP4_9TwoTornTransactionsDoNotMakeOne(t *testing.T) {
	for _, shape := range [][]int{{1, 20}, {1, 20, 30}, {30}, {0, 1, 2, 3}} {
		w := begin(t, noise(40*512, 9), 4, 16)
		brings(1, shape...)(w)
		for _, keep := range w.choices(allChoices) {
			x, _ := w.after(w.image(keep), -1)
			brings(2, shape...)(x)
			for _, again := range x.choices(allChoices) {
				y, _ := x.after(x.image(again), -1)
				brings(3, shape...)(y)
				brings(4, shape...)(y)
				z, _ := y.after(y.image(nil), -1)
				z.check()
			}
		}
	}
}

func TestP4_9ManyCutsInARow(t *testing.T) {
	for seed := range uint32(12) {
		w := begin(t, noise(40*512, seed), 4, 16)
		chance := noise(3*250, 1000+seed)
		for i := 0; i < len(chance); i += 3 {
			a, b, c := int(chance[i]), int(chance[i+1]), int(chance[i+2])
			e := api.OK
			switch w.d.Fuse(b % 30); a % 8 {
			case 0:
				e = w.flush()
			case 1:
				e = w.checkpoint()
			case 2:
				e = w.reopen()
			default:
				e = brings(i, 20+c%20, c%4, 20+b%20, b%4)(w)
			}
			if e == api.OK && a%16 < 13 {
				w.d.Fuse(-1)
				w.check()
				continue
			}
			keeps := w.choices(choices)
			w, _ = w.after(w.image(keeps[c%len(keeps)]), -1)
		}
	}
}

func TestP4_9FlushedTransactionsStayThoughLaterOnesAreLost(t *testing.T) {
	for n := range 30 {
		w := begin(t, make([]byte, 40*512), 4, 16)
		for i := range n {
			brings(i, i%4, 20+i%20)(w)
		}
		w.flush()
		brings(98, 1, 2)(w)
		brings(99, 3, 21)(w)
		for _, keep := range w.choices(allChoices) {
			w.after(w.image(keep), -1)
		}
	}
}

// ownBlocks gives the journal's blocks as they stand.
func (w *world) ownBlocks() [][]byte {
	image := w.image(firstPlaces(len(w.pending())))
	var out [][]byte
	for at := w.from; at < w.from+w.blocks; at++ {
		out = append(out, blockOf(image, at))
	}
	return out
}

func (w *world) pending() []int {
	pending, _ := w.d.Pending()
	return pending
}

// copies is a transaction of the journal's own blocks, from the one of that number on.
func copies(own [][]byte, first int, blocks ...int) []api.Put {
	var list []api.Put
	for i, at := range blocks {
		list = append(list, api.Put{At: at, Data: own[(first+i)%len(own)]})
	}
	return list
}

func TestP4_9DataThatAreCopiesOfTheLogsBlocks(t *testing.T) {
	for n := 1; n < 40; n++ {
		w := begin(t, make([]byte, 40*512), 4, 16)
		for i := range n {
			w.append(copies(w.ownBlocks(), i, 20+i%16, i%4, 21+i%16))
			if i%6 == 5 {
				w.flush()
			}
		}
		w.check()
		for _, keep := range w.choices(choices) {
			x, _ := w.after(w.image(keep), -1)
			x.append(copies(w.ownBlocks(), n, 1, 2))
			x.check()
		}
	}
}

// What a journal will write is known to whoever runs another one ahead: data may be copies of blocks to come.
func TestP4_9DataThatAreCopiesOfBlocksToCome(t *testing.T) {
	var toCome [][]byte
	ahead := begin(t, make([]byte, 40*512), 4, 16)
	for i := range 40 {
		brings(i, 1+i%3, 20+i%20)(ahead)
		toCome = append(toCome, ahead.ownBlocks()...)
		if i%9 == 8 {
			ahead.reopen()
		}
	}
	for first := 0; first < len(toCome); first += 5 {
		w := begin(t, make([]byte, 40*512), 4, 16)
		for i := range 6 {
			w.append(copies(toCome, first+3*i, 1+i%3, 20+i, 30+i))
			if i == 2 {
				w.flush()
			}
		}
		for _, keep := range w.choices(fewChoices) {
			x, _ := w.after(w.image(keep), -1)
			x.append(copies(toCome, first, 1, 20))
			x.check()
			x.after(x.image(nil), -1)
		}
	}
}

// older gives a disk on which a journal was used, with transactions in its log, and a world that knows it.
func older(t *testing.T, from int, blocks int) *world {
	t.Helper()
	w := begin(t, noise(60*512, 4), from, blocks)
	for i := range 9 {
		brings(i, 0, 1+i%2, 56+i%4)(w)
		if i == 4 {
			w.reopen()
		}
	}
	w.flush()
	w.check()
	return w
}

func TestP4_2FormatAnewOverAnOlderLog(t *testing.T) {
	for _, old := range []struct{ from, blocks int }{{4, 16}, {4, 50}, {4, 17}, {5, 16}, {4, 32}, {3, 40}} {
		w := older(t, old.from, old.blocks)
		image := w.image(nil)
		for n := range 8 {
			x := begin(t, image, 4, 16)
			x.check()
			for i := range n {
				brings(50+i, []int{0, 2, 50, 3}[:i%5]...)(x)
			}
			for _, keep := range x.choices(choices) {
				y, _ := x.after(x.image(keep), -1)
				brings(70, 0, 1)(y)
				y.check()
			}
		}
	}
}

func TestP4_2AJournalThatAnotherWasLaidOverStandsNoMore(t *testing.T) {
	for _, x := range []struct{ from, blocks int }{{4, 16}, {4, 40}, {5, 16}, {10, 16}, {20, 30}, {43, 16}, {0, 16}, {0, 60}} {
		w := older(t, 4, 40)
		checkFormat(t, w.c, x.from, x.blocks, api.OK)
		if x.from == 4 && x.blocks == 40 {
			checkSeq(t, openJournal(t, w.c, 4, 40), 0, api.OK)
			continue
		}
		checkOpenRefused(t, w.c, 4, 40, api.ErrJournalNone)
		checkSeq(t, openJournal(t, w.c, x.from, x.blocks), 0, api.OK)
		checkOpenRefused(t, w.c, 4, 40, api.ErrJournalNone)
	}
}

// A cut within Format leaves no journal, or an empty log, or what stood there ahead.
func TestP4_9CutsWithinFormat(t *testing.T) {
	for fuse := 0; ; fuse++ {
		w := older(t, 4, 16)
		brings(30, 0, 1)(w)
		brings(31, 2, 3)(w)
		home := w.image(firstPlaces(len(w.pending())))
		w.d.Fuse(fuse)
		e := journal.Format(w.c, 4, 16)
		if e == api.OK {
			if fuse < 3 {
				t.Errorf("Format lets the fuse at %d go on", fuse)
			}
			return
		}
		if e != api.ErrDiskOff {
			t.Fatalf("Format with the fuse at %d = %d", fuse, e)
		}
		for _, keep := range w.choices(choices) {
			w.checkHalfFormatted(w.image(keep), home)
		}
	}
}

func (w *world) checkHalfFormatted(image []byte, home []byte) {
	w.t.Helper()
	c := newCache(w.t, openDisk(w.t, image), 8)
	j, e := journal.Open(c, w.from, w.blocks)
	if e == api.ErrJournalNone && j == nil {
		return
	}
	if e != api.OK {
		w.t.Fatalf("Open behind a cut within Format = %d", e)
	}
	if n, _ := j.Seq(); n > 0 {
		w.after(image, -1)
		return
	}
	x := &world{t: w.t, d: c.Disk, c: c, j: j, from: w.from, blocks: w.blocks, base: home}
	x.check()
}

func TestP4_9CutsWithinFormatOverAnyBytes(t *testing.T) {
	// As good as any bytes are those of a journal that stood at the same place on another disk.
	for _, image := range [][]byte{noise(60*512, 1), older(t, 4, 40).image(nil), older(t, 5, 16).image(nil), make([]byte, 60*512)} {
		for fuse := 0; ; fuse++ {
			d := openDisk(t, image)
			c := newCache(t, d, 8)
			d.Fuse(fuse)
			if journal.Format(c, 4, 16) == api.OK {
				break
			}
			w := &world{t: t, d: d, from: 4, blocks: 16, base: image}
			for _, keep := range w.choices(choices) {
				w.checkHalfFormatted(w.image(keep), image)
			}
		}
	}
}

// Behind a cut within Format, a journal that is found empty takes what comes: nothing of the old log goes on behind it.
func TestP4_9WhatACutWithinFormatLeavesIsUsed(t *testing.T) {
	for fuse := 0; ; fuse++ {
		w := begin(t, noise(40*512, 2), 4, 16)
		play(w, []step{brings(1, 1), brings(2, 20), brings(3), brings(4, 1, 2), brings(5), (*world).flush})
		home := w.image(nil)
		w.d.Fuse(fuse)
		if journal.Format(w.c, 4, 16) == api.OK {
			return
		}
		for _, keep := range w.choices(choices) {
			w.useHalfFormatted(w.image(keep), home)
		}
	}
}

func (w *world) useHalfFormatted(image []byte, home []byte) {
	w.t.Helper()
	for _, steps := range [][]step{{brings(6, 30)}, {brings(6)}, {brings(6), brings(7)}, {brings(6, 1, 20)}, {brings(6, 1), brings(7, 20)}} {
		c := newCache(w.t, openDisk(w.t, image), 8)
		j, e := journal.Open(c, w.from, w.blocks)
		if e != api.OK {
			return
		}
		if n, _ := j.Seq(); n > 0 {
			return
		}
		x := &world{t: w.t, d: c.Disk, c: c, j: j, from: w.from, blocks: w.blocks, base: home}
		play(x, steps)
		x.check()
		for _, keep := range x.choices(choices) {
			x.after(x.image(keep), -1)
		}
	}
}

// A longer log of which Format wipes a part is not found in part.
func TestP4_9CutsWithinFormatOverAPartOfAnotherJournal(t *testing.T) {
	for _, x := range []struct{ from, blocks int }{{4, 16}, {6, 16}, {12, 16}, {0, 30}} {
		for fuse := 0; ; fuse++ {
			w := older(t, 4, 40)
			w.apart = func(at int) bool { return at >= x.from && at < x.from+x.blocks }
			w.d.Fuse(fuse)
			if journal.Format(w.c, x.from, x.blocks) == api.OK {
				break
			}
			for _, keep := range w.choices(choices) {
				image := w.image(keep)
				j, e := journal.Open(newCache(t, openDisk(t, image), 8), 4, 40)
				if e == api.OK && j != nil {
					w.after(image, -1)
				} else if e != api.ErrJournalNone {
					t.Fatalf("Open behind a cut within Format(%d, %d) = %d", x.from, x.blocks, e)
				}
			}
		}
	}
}

func TestP4_9TwoJournalsInTurns(t *testing.T) {
	for fuse := -1; fuse < 90; fuse++ {
		one := begin(t, noise(60*512, 6), 4, 16)
		two := &world{t: t, d: one.d, c: one.c, from: 40, blocks: 18, base: one.base}
		checkFormat(t, one.c, 40, 18, api.OK)
		two.j = openJournal(t, one.c, 40, 18)
		one.d.Fuse(fuse)
		for i := range 20 {
			e := brings(i, i%4, 20+i%4)(one)
			if e == api.OK {
				e = brings(100+i, 30+i%4, 58+i%2, 34)(two)
			}
			if e == api.OK && i%7 == 3 {
				e = one.checkpoint()
				two.lasts = max(two.lasts, boolTo(e == api.OK, two.taken))
			}
			if e == api.OK && i%7 == 5 {
				e = two.reopen()
				one.lasts = max(one.lasts, boolTo(e == api.OK, one.taken))
			}
			if e != api.OK {
				break
			}
		}
		for _, keep := range one.choices(fewChoices) {
			image := one.image(keep)
			checkTurn(t, one, image, 0, 20)
			checkTurn(t, two, image, 30, 58)
		}
	}
}

func boolTo(holds bool, n int) int {
	if holds {
		return n
	}
	return 0
}

// checkTurn asks a journal for the blocks that it alone wrote.
func checkTurn(t *testing.T, w *world, image []byte, blocks ...int) {
	t.Helper()
	j := openJournal(t, newCache(t, openDisk(t, image), 8), w.from, w.blocks)
	n, e := j.Seq()
	if e != api.OK || n < w.lasts || n > len(w.log) {
		t.Fatalf("Seq() of a journal beside another one = %d, %d; want %d to %d", n, e, w.lasts, len(w.log))
	}
	want := w.behind(n)
	for _, first := range blocks {
		for at := first; at < first+2; at++ {
			checkRead(t, j, at, blockOf(want, at), api.OK)
		}
	}
}

// aged gives an image in which the journal's head bears one life, and each block that was written to its log another.
func (w *world) aged(image []byte, headLife int, logLife int) []byte {
	w.t.Helper()
	out := bytes.Clone(image)
	life := headLife
	for at := w.from; at < w.from+w.blocks; at++ {
		kind, old, body, e := field.Unstamp(blockOf(out, at))
		if e != api.OK {
			w.t.Fatalf("block %d is not stamped: %d", at, e)
		}
		if old > 0 {
			block, _ := field.Stamp(kind, life, body)
			copy(blockOf(out, at), block)
		}
		life = logLife
	}
	return out
}

// cutsAtTheEnd goes through a script at every fuse, from an image whose journal comes to its last life.
func (w *world) cutsAtTheEnd(image []byte, steps []step) {
	w.t.Helper()
	w.cutsWithinOpen(image, 0)
	for fuse := 0; ; fuse++ {
		x, _ := w.after(image, -1)
		x.d.Fuse(fuse)
		if play(x, steps) {
			return
		}
		for i, keep := range x.choices(choices) {
			cut := x.image(keep)
			y, _ := x.after(cut, -1)
			play(y, []step{brings(31), brings(32, 1, 20), brings(33)})
			y.check()
			y.after(y.image(nil), -1)
			if i%20 == fuse%20 {
				x.cutsWithinOpen(cut, 0)
			}
		}
	}
}

func TestP4_9CutsWhereTheLivesEnd(t *testing.T) {
	settles := []step{brings(21), brings(22, 1, 20), (*world).checkpoint, brings(23), (*world).reopen, brings(24, 30)}
	fills := []step{brings(21, 20, 21, 22, 23), brings(22, 22, 23, 24, 25), brings(23, 0, 1, 2, 3), brings(24, 24, 25, 0, 1)}
	for _, x := range []struct {
		left  int
		steps []step
	}{{0, settles}, {1, settles}, {2, settles}, {1, fills}} {
		w := begin(t, noise(40*512, 9), 4, 16)
		play(w, []step{brings(1, 1, 20), brings(2, 20, 39, 20), brings(3), brings(4), brings(5, 30), (*world).flush})
		// The transactions stand in the log.
		w.cutsAtTheEnd(w.aged(w.image(nil), api.MaxSeq-x.left, api.MaxSeq-x.left), x.steps)
		// They are home, and what is left in the log is as old as what comes behind the last life.
		w.checkpoint()
		w.cutsAtTheEnd(w.aged(w.image(nil), api.MaxSeq-x.left, 1), x.steps)
	}
}

// shuffled gives an image whose stamped journal blocks bear other numbers, stand at other places, or tell of more
// transactions, as chance has it.
func (w *world) shuffled(image []byte, chance []byte) []byte {
	w.t.Helper()
	out := bytes.Clone(image)
	for ; len(chance) >= 3; chance = chance[3:] {
		at, from := w.from+int(chance[0])%6, w.from+int(chance[1])%w.blocks
		kind, life, body, e := field.Unstamp(blockOf(out, at))
		if e != api.OK {
			w.t.Fatalf("block %d is not stamped: %d", at, e)
		}
		lives := []int{0, 1, 2, 3, api.MaxSeq - 2, api.MaxSeq - 1, api.MaxSeq, life + 1, life - 1}
		switch c := int(chance[2]); {
		case c%4 == 0 && at != w.from:
			copy(blockOf(out, at), blockOf(image, from))
			continue
		case c%8 == 1 && at == w.from:
			body, _ = field.Pack(api.Field{Width: 3, Value: w.from}, api.Field{Width: 3, Value: w.blocks}, api.Field{Width: 8, Value: api.MaxSeq - c%5})
		default:
			life = min(max(lives[c%len(lives)], 0), api.MaxSeq)
		}
		block, _ := field.Stamp(kind, life, body)
		copy(blockOf(out, at), block)
	}
	return out
}

// No call leaves such disks. But what Open takes for a journal is one: it finds the same again, behind a cut within
// Open too, and takes what comes.
func TestP4_3WhatOpenTakesForAJournalIsOne(t *testing.T) {
	taken := 0
	for seed := range uint32(700) {
		w := begin(t, noise(40*512, 9), 4, 16)
		play(w, []step{brings(1, 1, 20), brings(2), (*world).checkpoint, brings(3, 20, 39), brings(4), brings(5, 30), (*world).flush})
		image := w.shuffled(w.image(nil), noise(int(3+seed%9), seed))
		c := newCache(t, openDisk(t, image), 8)
		j, e := journal.Open(c, 4, 16)
		if e == api.ErrJournalNone && j == nil {
			continue
		}
		if e != api.OK {
			t.Fatalf("seed %d: Open = %d", seed, e)
		}
		taken++
		seq, home := tells(t, j)
		for fuse := range 12 {
			d := openDisk(t, image)
			d.Fuse(fuse)
			journal.Open(newCache(t, d, 8), 4, 16)
			again, same := tells(t, openJournal(t, newCache(t, openDisk(t, lastingOf(t, d)), 8), 4, 16))
			if again != seq || !bytes.Equal(same, home) {
				t.Fatalf("seed %d: behind a cut within Open at %d there are %d transactions, or other bytes; want %d", seed, fuse, again, seq)
			}
		}
		checkTakesMore(t, c, seq, home)
	}
	if taken < 150 {
		t.Errorf("Open takes %d of the images alone", taken)
	}
}

// tells gives all that a journal tells: how many transactions it has, and what the home blocks hold.
func tells(t *testing.T, j *journal.Journal) (int, []byte) {
	t.Helper()
	n, e := j.Seq()
	if e != api.OK || n < 0 || n > api.MaxSeq {
		t.Fatalf("Seq() = %d, %d", n, e)
	}
	var home []byte
	for at := range 40 {
		data, _ := j.Read(at)
		home = append(home, data...)
	}
	return n, home
}

// checkTakesMore brings transactions to a journal, each in a life of its own.
func checkTakesMore(t *testing.T, c *cache.Cache, seq int, home []byte) {
	t.Helper()
	for i := range 5 {
		j := openJournal(t, c, 4, 16)
		want := api.OK
		if seq == api.MaxSeq {
			want = api.ErrJournalSeq
		}
		data := noise(512, uint32(i))
		checkAppend(t, j, []api.Put{{At: 0, Data: data}}, want)
		if want == api.OK {
			seq++
			copy(home, data)
		}
		if i%2 == 0 {
			checkCheckpoint(t, j, api.OK)
		}
		checkFlush(t, j, api.OK)
		for range 2 {
			again, same := tells(t, openJournal(t, newCache(t, openDisk(t, lastingOf(t, c.Disk)), 8), 4, 16))
			if again != seq || !bytes.Equal(same, home) {
				t.Fatalf("behind %d more there are %d transactions, or other bytes; want %d", i+1, again, seq)
			}
		}
	}
}

func TestR5TheSameCallsMakeTheSameWrites(t *testing.T) {
	steps := script()
	for fuse := 0; ; fuse++ {
		one, two := begin(t, noise(40*512, 9), 4, 16), begin(t, noise(40*512, 9), 4, 16)
		one.d.Fuse(fuse)
		two.d.Fuse(fuse)
		done := play(one, steps)
		if play(two, steps) != done || !slices.Equal(one.pending(), two.pending()) || !bytes.Equal(one.image(nil), two.image(nil)) {
			t.Fatalf("with the fuse at %d the same calls have written %v and %v", fuse, one.pending(), two.pending())
		}
		if done {
			return
		}
	}
}
