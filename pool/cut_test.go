package pool_test

import (
	"slices"
	"strings"
	"testing"

	"cistern/api"
	"cistern/disk"
	"cistern/pool"
	"cistern/txn"
)

// choices gives which of n pending writes stay: all choices of a few, a fixed selection of many.
func choices(n int) [][]int {
	all := firstPlaces(n)
	if n <= 3 {
		var out [][]int
		for mask := range 1 << n {
			out = append(out, slices.DeleteFunc(slices.Clone(all), func(i int) bool { return mask>>i&1 == 0 }))
		}
		return out
	}
	out := [][]int{nil, all, all[:1], all[1:], all[:n-1], all[n-1:], all[:n/2], all[n/2:]}
	for _, chance := range noise(4, uint32(n)) {
		out = append(out, slices.DeleteFunc(slices.Clone(all), func(i int) bool { return (chance>>(i%8)^byte(i/8))&1 == 1 }))
	}
	return out
}

// deed is what is done in one transaction.
type deed func(b *bench)

func puts(name string, mapped ...int) deed { return func(b *bench) { b.put(name, mapped...) } }

func sets(s api.Slot) deed { return func(b *bench) { b.checkSetSlot(s, api.OK) } }

func extends(capacity int) deed { return func(b *bench) { b.checkExtend(capacity, api.OK) } }

// writes is a deed: it lays noise in these pool blocks.
func writes(seed uint32, blocks ...int) deed {
	return func(b *bench) {
		for _, block := range blocks {
			b.write(block, noise(512, seed+uint32(block)))
		}
	}
}

// lets is a deed: a volume goes, with its map.
func lets(name string) deed {
	return func(b *bench) {
		b.t.Helper()
		entry, e := b.p.Catalog().Find(b.x, name)
		if e != api.OK {
			b.t.Fatalf("Find(t, %s) = %d", name, e)
		}
		if e := b.p.Map().Release(b.x, entry.Root); e != api.OK {
			b.t.Fatalf("Release = %d", e)
		}
		if e := b.p.Catalog().Remove(b.x, entry.ID); e != api.OK {
			b.t.Fatalf("Remove = %d", e)
		}
	}
}

// deeds fill the log of a pool of 20 on 280 blocks more than once.
func deeds() []deed {
	return []deed{
		puts("a", 5, 6),
		sets(greatest(api.SlotRunning)),
		extends(21),
		writes(1, 20, 21, 22),
		sets(slotOf(api.SlotDone, 120, 0, manyOps(120, 1)...)),
		func(b *bench) { b.put("b", 4096); b.checkSetSlot(slotOf(api.SlotDone, 0, 0), api.OK) },
		sets(slotOf(api.SlotAborted, 3, 64, manyOps(90, 2)...)),
		lets("a"),
		func(b *bench) {
			lets("b")(b)
			b.putMany("c", 5)
			b.fillCounts(true)
			b.checkSetSlot(greatest(api.SlotRunning), api.OK)
			writes(2, 1, 2, 3, 4, 5, 6, 7, 8, 9, 10, 11, 12, 13, 14, 15, 16, 17, 18, 19, 20, 21, 22)(b)
			b.write(1, full(1))
		},
		sets(api.Slot{}),
		extends(22),
		sets(slotOf(api.SlotRunning, 0, 0, manyOps(120, 3)...)),
		sets(greatest(api.SlotAborted)),
		sets(slotOf(api.SlotRunning, 118, 0, manyOps(119, 4)...)),
		lets("ca"),
	}
}

func (b *bench) putMany(name string, count int) {
	for i := range count {
		b.put(name + string(rune('a'+i)))
	}
}

// history is what a pool was behind each of its transactions, and what may be found of it behind a cut.
type history struct {
	states []string // by how many transactions were committed
	taken  int      // how many of them answered OK
	called int      // of how many Commit was called
	lasts  int      // how many of these were synced, or found
}

// may gives the states of which a cut leaves one.
func (h history) may() []string { return h.states[h.lasts : h.called+1] }

// begun gives a pool of 20 on 280 blocks of noise. No transaction of it is open.
func begun(t *testing.T) *bench {
	t.Helper()
	d := diskOf(t, noise(280*512, 77))
	checkFormat(t, d, 20, api.OK)
	b := found(t, d)
	b.x.Abort()
	return b
}

// told gives a history of states alone.
func told(t *testing.T) history {
	t.Helper()
	b := begun(t)
	b.begin()
	h := history{states: []string{b.state()}}
	for _, do := range deeds() {
		do(b)
		b.commit()
		h.states = append(h.states, b.state())
	}
	return h
}

// plays does the deeds, with a Sync behind every third, until the power goes off. It answers whether it did not.
func (h *history) plays(b *bench, all []deed) bool {
	for i, do := range all {
		x, e := b.p.Begin()
		if e != api.OK {
			return false
		}
		b.x = x
		do(b)
		h.called++
		if x.Commit() != api.OK {
			return false
		}
		h.taken++
		if i%3 == 2 {
			if b.p.Sync() != api.OK {
				return false
			}
			h.lasts = h.taken
		}
	}
	return true
}

// opened gives the state of the pool on a disk, "" where there is none.
func opened(t *testing.T, d *disk.Disk) string {
	t.Helper()
	p, e := pool.Open(d)
	if p == nil && e == api.ErrPoolNone {
		return ""
	}
	if p == nil || e != api.OK {
		t.Fatalf("Open behind a cut = a pool: %v, %d", p != nil, e)
	}
	b := &bench{t: t, d: d, p: p}
	b.begin()
	state := b.state()
	b.x.Abort()
	return state
}

// checkCuts opens what any of the pending writes leave, and holds that it may be so.
func checkCuts(t *testing.T, d *disk.Disk, may []string, within bool) {
	t.Helper()
	for i, keep := range choices(pendingOf(t, d)) {
		image := crashed(t, d, keep)
		after := opened(t, diskOf(t, image))
		if !slices.Contains(may, after) {
			t.Fatalf("behind a cut that %d of %d writes survive there is a pool that may not be", len(keep), pendingOf(t, d))
		}
		if within && i%5 == 0 && after != "" {
			checkCutsWithinOpen(t, image, may[slices.Index(may, after):])
		}
	}
}

// checkCutsWithinOpen opens an image with every fuse that Open can reach, and again what is left then: it is the same
// pool, or one of those with more of its transactions.
func checkCutsWithinOpen(t *testing.T, image []byte, may []string) {
	t.Helper()
	for fuse := 0; ; fuse++ {
		d := diskOf(t, image)
		d.Fuse(fuse)
		p, e := pool.Open(d)
		if e == api.OK && d.On() {
			return
		}
		if p != nil || e != api.ErrDiskOff || d.On() {
			t.Fatalf("Open with a fuse of %d = a pool: %v, %d", fuse, p != nil, e)
		}
		n := pendingOf(t, d)
		for _, keep := range [][]int{nil, firstPlaces(n), firstPlaces(n)[n/2:], firstPlaces(n)[:n/2]} {
			if !slices.Contains(may, opened(t, diskOf(t, crashed(t, d, keep)))) {
				t.Fatalf("behind a cut within Open at %d, of which %d of %d writes survive, there is a pool that may not be", fuse, len(keep), n)
			}
		}
	}
}

func TestP9_12CutsAtEveryWriteAndBarrier(t *testing.T) {
	states := told(t).states
	for fuse := 0; ; fuse++ {
		b := begun(t)
		h := history{states: states}
		b.d.Fuse(fuse)
		whole := h.plays(b, deeds())
		checkCuts(t, b.d, h.may(), fuse%29 == 0)
		if whole {
			if fuse < 200 {
				t.Errorf("the deeds have %d writes and flushes alone", fuse)
			}
			return
		}
		if b.d.On() {
			t.Fatalf("a deed is refused though the power is on, behind %d", h.taken)
		}
	}
}

func TestP9_12CutsBetweenCalls(t *testing.T) {
	states := told(t).states
	for n := range len(deeds()) + 1 {
		b := begun(t)
		h := history{states: states}
		h.plays(b, deeds()[:n])
		checkCuts(t, b.d, h.may(), n%3 == 1)
		// An open transaction is not there at all.
		b.begin()
		b.put("open", 1)
		b.checkSetSlot(slotOf(api.SlotDone, 7, 0, deletes(7)...), api.OK)
		b.write(3, full(3))
		checkCuts(t, b.d, h.may(), false)
		b.x.Abort()
		checkCuts(t, b.d, h.may(), false)
	}
}

// One cut behind the other: what is found each time lasts, and the deeds go on behind it.
func TestP9_12ManyCutsInARow(t *testing.T) {
	states := told(t).states
	for seed := range uint32(12) {
		chance := noise(4000, seed+5)
		roll := func(n int) int {
			chance = chance[1:]
			return int(chance[0]) % n
		}
		h := history{states: states}
		b := begun(t)
		for h.taken < len(deeds()) && len(chance) > 10 {
			b.d.Fuse(roll(60))
			h.called = h.taken
			h.plays(b, deeds()[h.taken:])
			keeps := choices(pendingOf(t, b.d))
			d := diskOf(t, crashed(t, b.d, keeps[roll(len(keeps))]))
			n := slices.Index(h.may(), opened(t, d))
			if n < 0 {
				t.Fatalf("behind a cut there is a pool that may not be")
			}
			h.taken, h.lasts = h.lasts+n, h.lasts+n
			b = found(t, d)
			b.x.Abort()
		}
		if h.taken < len(deeds()) {
			t.Errorf("%d of %d deeds are done: too few for a test", h.taken, len(deeds()))
		}
	}
}

// grounds are what a Format can meet: each with the states that it may be found in when the power goes off now.
func grounds(t *testing.T) map[string]func() (*disk.Disk, []string) {
	t.Helper()
	states := told(t).states
	after := func(n int) func() (*disk.Disk, []string) {
		return func() (*disk.Disk, []string) {
			b := begun(t)
			h := history{states: states}
			h.plays(b, deeds()[:n])
			return b.d, append([]string{""}, h.may()...)
		}
	}
	return map[string]func() (*disk.Disk, []string){
		"zeros":                    func() (*disk.Disk, []string) { return newDisk(t, 280), []string{""} },
		"noise":                    func() (*disk.Disk, []string) { return diskOf(t, noise(280*512, 3)), []string{""} },
		"an empty pool":            after(0),
		"a pool that is synced":    after(3),
		"a pool with open ends":    after(5),
		"a pool with a fresh log":  after(8),
		"a pool behind all of its": after(15),
	}
}

func TestP9_12CutsWithinFormat(t *testing.T) {
	for name, ground := range grounds(t) {
		t.Run(name, func(t *testing.T) {
			capacity := 1 + len(name)%22
			for fuse := 0; ; fuse++ {
				d, old := ground()
				d.Fuse(fuse)
				e := pool.Format(d, capacity)
				checkFormatCuts(t, d, old, empty(capacity))
				if e == api.OK {
					if fuse < 100 {
						t.Errorf("Format has %d writes and flushes alone", fuse)
					}
					return
				}
				if e != api.ErrDiskOff || d.On() {
					t.Fatalf("Format with a fuse of %d = %d, on: %v", fuse, e, d.On())
				}
			}
		})
	}
}

// checkFormatCuts is checkCuts, with the empty pool that was asked for beside: of its blocks' bytes nothing is said.
func checkFormatCuts(t *testing.T, d *disk.Disk, old []string, fresh string) {
	t.Helper()
	for _, keep := range choices(pendingOf(t, d)) {
		after := opened(t, diskOf(t, crashed(t, d, keep)))
		if !slices.Contains(old, after) && !strings.HasPrefix(after, fresh) {
			t.Fatalf("behind a cut within Format that %d of %d writes survive there is a pool that may not be", len(keep), pendingOf(t, d))
		}
	}
}

// What a cut within Format leaves can be formatted.
func TestP9_12FormatBehindACutWithinFormat(t *testing.T) {
	for fuse := 0; ; fuse += 3 {
		b := used(t, 280, 20)
		b.d.Fuse(fuse)
		e := pool.Format(b.d, 7)
		if e == api.OK {
			return
		}
		if e != api.ErrDiskOff {
			t.Fatalf("Format with a fuse of %d = %d", fuse, e)
		}
		for _, keep := range choices(pendingOf(t, b.d)) {
			d := diskOf(t, crashed(t, b.d, keep))
			checkFormat(t, d, 9, api.OK)
			n := found(t, d)
			n.checkEmpty(9)
			n.put("a", 1)
			n.commit()
			n.sync()
			if v := n.lasting().view(); v.Free != 5 || len(v.Volumes) != 1 {
				t.Fatalf("View = %s", shown(v))
			}
		}
	}
}

// In one Commit the power goes off: each part of the pool is as it was, or each is as it shall be.
func TestP9_12NoTransactionIsThereInPart(t *testing.T) {
	met := map[string]int{}
	var before, after string
	for fuse := 0; ; fuse++ {
		b := used(t, 400, 100)
		b.sync()
		before = b.state()
		b.put("new", 1, 2, 3)
		b.checkSetSlot(greatest(api.SlotRunning), api.OK)
		b.write(90, full(90))
		after = b.state()
		b.d.Fuse(fuse)
		e := b.x.Commit()
		for _, keep := range choices(pendingOf(t, b.d)) {
			met[opened(t, diskOf(t, crashed(t, b.d, keep)))]++
		}
		if e == api.OK {
			break
		}
	}
	if len(met) != 2 || met[before] == 0 || met[after] == 0 {
		t.Errorf("the cuts leave %d states; want both what was ahead and what is behind", len(met))
	}
}

// Behind a cut nobody's transaction is open, and the old ones are none of the pool's.
func TestP9_12TransactionsOfAheadOfACut(t *testing.T) {
	b := used(t, 400, 100)
	old := []*txn.Txn{b.x}
	b.put("open")
	b.darken()
	n := b.seen()
	for _, x := range old {
		if _, e := n.p.View(x); e != api.ErrTxnForeign {
			t.Errorf("View with a transaction of ahead of a cut = %d", e)
		}
	}
}

// The first Open behind a Format brings home what that has laid: no cut within it loses any of it.
func TestP9_12CutsWithinTheFirstOpen(t *testing.T) {
	d := diskOf(t, noise(280*512, 8))
	checkFormat(t, d, 13, api.OK)
	image := crashed(t, d, nil)
	state := opened(t, d)
	if !strings.HasPrefix(state, empty(13)) {
		t.Fatalf("Format does not lay an empty pool")
	}
	checkCutsWithinOpen(t, image, []string{state})
}
