package journal_test

import (
	"bytes"
	"math"
	"slices"
	"testing"

	"cistern/api"
	"cistern/cache"
	"cistern/disk"
	"cistern/journal"
)

// full gives a block that is one byte all through.
func full(name byte) []byte { return bytes.Repeat([]byte{name}, 512) }

// noise gives bytes that look like chance and are the same in each run.
func noise(size int, seed uint32) []byte {
	out := make([]byte, size)
	for i := range out {
		seed = seed*1664525 + 1013904223
		out[i] = byte(seed >> 24)
	}
	return out
}

func newDisk(t *testing.T, blocks int) *disk.Disk {
	t.Helper()
	d, e := disk.New(blocks)
	if d == nil || e != api.OK {
		t.Fatalf("disk.New(%d): %v, %d", blocks, d != nil, e)
	}
	return d
}

func openDisk(t *testing.T, image []byte) *disk.Disk {
	t.Helper()
	d, e := disk.Open(image)
	if d == nil || e != api.OK {
		t.Fatalf("disk.Open(%d bytes): %v, %d", len(image), d != nil, e)
	}
	return d
}

func newCache(t *testing.T, d *disk.Disk, room int) *cache.Cache {
	t.Helper()
	c, e := cache.New(d, room)
	if c == nil || e != api.OK {
		t.Fatalf("cache.New(d, %d) = a cache: %v, %d", room, c != nil, e)
	}
	return c
}

func openJournal(t *testing.T, c *cache.Cache, from int, blocks int) *journal.Journal {
	t.Helper()
	j, e := journal.Open(c, from, blocks)
	if j == nil || e != api.OK {
		t.Fatalf("Open(c, %d, %d) = a journal: %v, %d", from, blocks, j != nil, e)
	}
	return j
}

// made gives a disk of 40 blocks of zeros, a cache on it, and an open journal at 4 of 16 blocks.
func made(t *testing.T) (*disk.Disk, *cache.Cache, *journal.Journal) {
	t.Helper()
	d := newDisk(t, 40)
	c := newCache(t, d, 8)
	checkFormat(t, c, 4, 16, api.OK)
	return d, c, openJournal(t, c, 4, 16)
}

// darken turns the power of a disk off.
func darken(t *testing.T, d *disk.Disk) {
	t.Helper()
	if e := d.Fuse(0); e != api.OK {
		t.Fatalf("Fuse(0) = %d", e)
	}
	if e := d.Flush(); e != api.ErrDiskOff || d.On() {
		t.Fatalf("Flush() with the fuse at 0 = %d, on: %v", e, d.On())
	}
}

// puts makes a transaction of blocks that each hold one byte all through.
func puts(pairs ...int) []api.Put {
	var out []api.Put
	for i := 0; i < len(pairs); i += 2 {
		out = append(out, api.Put{At: pairs[i], Data: full(byte(pairs[i+1]))})
	}
	return out
}

func checkMost(t *testing.T, blocks int, want int, wantErr api.Errno) {
	t.Helper()
	if got, e := journal.Most(blocks); got != want || e != wantErr {
		t.Errorf("Most(%d) = %d, %d; want %d, %d", blocks, got, e, want, wantErr)
	}
}

func checkFormat(t *testing.T, c *cache.Cache, from int, blocks int, wantErr api.Errno) {
	t.Helper()
	if e := journal.Format(c, from, blocks); e != wantErr {
		t.Errorf("Format(a cache: %v, %d, %d) = %d; want %d", c != nil, from, blocks, e, wantErr)
	}
}

func checkOpenRefused(t *testing.T, c *cache.Cache, from int, blocks int, wantErr api.Errno) {
	t.Helper()
	if j, e := journal.Open(c, from, blocks); j != nil || e != wantErr {
		t.Errorf("Open(a cache: %v, %d, %d) = a journal: %v, %d; want none, %d", c != nil, from, blocks, j != nil, e, wantErr)
	}
}

func checkAppend(t *testing.T, j *journal.Journal, puts []api.Put, wantErr api.Errno) {
	t.Helper()
	if e := j.Append(puts); e != wantErr {
		t.Errorf("Append(%d puts) = %d; want %d", len(puts), e, wantErr)
	}
}

func checkRead(t *testing.T, j *journal.Journal, at int, want []byte, wantErr api.Errno) {
	t.Helper()
	if got, e := j.Read(at); !bytes.Equal(got, want) || e != wantErr {
		t.Errorf("Read(%d) = %d bytes, error %d, as wanted: %v; want error %d", at, len(got), e, bytes.Equal(got, want), wantErr)
	}
}

func checkFlush(t *testing.T, j *journal.Journal, wantErr api.Errno) {
	t.Helper()
	if e := j.Flush(); e != wantErr {
		t.Errorf("Flush() = %d; want %d", e, wantErr)
	}
}

func checkCheckpoint(t *testing.T, j *journal.Journal, wantErr api.Errno) {
	t.Helper()
	if e := j.Checkpoint(); e != wantErr {
		t.Errorf("Checkpoint() = %d; want %d", e, wantErr)
	}
}

func checkSeq(t *testing.T, j *journal.Journal, want int, wantErr api.Errno) {
	t.Helper()
	if got, e := j.Seq(); got != want || e != wantErr {
		t.Errorf("Seq() = %d, %d; want %d, %d", got, e, want, wantErr)
	}
}

// imageOf gives what the disk would hold if all that was written stayed.
func imageOf(t *testing.T, d *disk.Disk) []byte {
	t.Helper()
	pending, e := d.Pending()
	if e != api.OK {
		t.Fatalf("Pending() = %d", e)
	}
	return crash(t, d, firstPlaces(len(pending)))
}

func lastingOf(t *testing.T, d *disk.Disk) []byte { return crash(t, d, nil) }

func crash(t *testing.T, d *disk.Disk, keep []int) []byte {
	t.Helper()
	image, e := d.Crash(keep)
	if e != api.OK {
		t.Fatalf("Crash(%v) = %d", keep, e)
	}
	return image
}

func firstPlaces(n int) []int {
	places := make([]int, n)
	for i := range places {
		places[i] = i
	}
	return places
}

func blockOf(image []byte, at int) []byte { return image[at*512 : (at+1)*512] }

func TestP4ExamplesInTheirOrder(t *testing.T) {
	checkMost(t, 16, 4, api.OK)
	checkMost(t, 17, 4, api.OK)
	checkMost(t, 256, 124, api.OK)
	checkMost(t, 15, 0, api.ErrJournalRoom)
	other := newCache(t, newDisk(t, 40), 8)
	checkFormat(t, other, 25, 16, api.ErrJournalRoom)
	checkFormat(t, other, 24, 16, api.OK)
	checkFormat(t, other, -1, 16, api.ErrJournalRoom)
	d := newDisk(t, 40)
	c := newCache(t, d, 8)
	checkOpenRefused(t, c, 4, 16, api.ErrJournalNone)
	checkFormat(t, c, 4, 16, api.OK)
	j := openJournal(t, c, 4, 16)
	checkSeq(t, j, 0, api.OK)
	checkRead(t, j, 3, full(0), api.OK)
	checkRead(t, j, 4, nil, api.ErrJournalAt)
	checkRead(t, j, 20, full(0), api.OK)
	checkRead(t, j, 40, nil, api.ErrJournalAt)
	checkAppend(t, j, puts(3, 'A', 20, 'B', 3, 'C'), api.OK)
	checkRead(t, j, 3, full('C'), api.OK)
	checkSeq(t, j, 1, api.OK)
	checkAppend(t, j, puts(4, 'A'), api.ErrJournalAt)
	checkAppend(t, j, []api.Put{{At: 3, Data: full('A')[:511]}}, api.ErrJournalData)
	checkAppend(t, j, puts(20, 1, 21, 1, 22, 1, 23, 1, 24, 1), api.ErrJournalLarge)
	checkAppend(t, j, puts(20, 1, 21, 1, 22, 1, 23, 1, 20, 2, 21, 2, 22, 2, 23, 2, 20, 3), api.OK)
	checkAppend(t, j, nil, api.OK)
	checkSeq(t, j, 3, api.OK)
	checkAppend(t, j, puts(1, 'A'), api.OK)
	checkFlush(t, j, api.OK)
	checkAppend(t, j, puts(1, 'B'), api.OK)
	checkAppend(t, j, puts(2, 'B'), api.OK)
	darken(t, d)
	pending, _ := d.Pending()
	for _, keep := range choices(len(pending)) {
		again := newCache(t, openDisk(t, crash(t, d, keep)), 8)
		checkOpenRefused(t, again, 4, 17, api.ErrJournalNone)
		checkLastExample(t, openJournal(t, again, 4, 16))
	}
}

// checkLastExample counts from the four transactions that lasted; the first three of them do not matter here.
func checkLastExample(t *testing.T, j *journal.Journal) {
	t.Helper()
	n, e := j.Seq()
	if e != api.OK || n < 4 || n > 6 {
		t.Fatalf("Seq() = %d, %d", n, e)
	}
	one, two := byte('B'), byte(0)
	if n == 4 {
		one = 'A'
	}
	if n == 6 {
		two = 'B'
	}
	checkRead(t, j, 1, full(one), api.OK)
	checkRead(t, j, 2, full(two), api.OK)
}

func TestP4_1Most(t *testing.T) {
	for blocks := 16; blocks <= 300; blocks++ {
		checkMost(t, blocks, blocks/2-4, api.OK)
	}
	checkMost(t, 524287, 262139, api.OK)
	checkMost(t, 524288, 262140, api.OK)
	for _, blocks := range []int{15, 8, 1, 0, -1, -16, math.MinInt, 524289, 1 << 20, 1 << 40, math.MaxInt} {
		checkMost(t, blocks, 0, api.ErrJournalRoom)
	}
}

func TestP4_2FormatAndP4_3OpenRefuse(t *testing.T) {
	d := newDisk(t, 40)
	c := newCache(t, d, 8)
	before := imageOf(t, d)
	for _, x := range []struct{ from, blocks int }{
		{-1, 16}, {math.MinInt, 16}, {25, 16}, {24, 17}, {39, 16}, {40, 16}, {0, 41}, {-1, 41}, {1, 40},
		{math.MaxInt, 16}, {math.MaxInt - 15, 16}, {1 << 40, 16}, {0, 15}, {4, 0}, {4, -16}, {4, math.MinInt},
		{0, 524288}, {0, 524289}, {-524288, 524288}, {0, math.MaxInt}, {math.MaxInt, math.MaxInt}, {math.MinInt, math.MinInt},
	} {
		checkFormat(t, c, x.from, x.blocks, api.ErrJournalRoom)
		checkOpenRefused(t, c, x.from, x.blocks, api.ErrJournalRoom)
		checkFormat(t, nil, x.from, x.blocks, api.ErrNil)
		checkOpenRefused(t, nil, x.from, x.blocks, api.ErrNil)
	}
	checkFormat(t, nil, 4, 16, api.ErrNil)
	checkOpenRefused(t, nil, 4, 16, api.ErrNil)
	if !bytes.Equal(imageOf(t, d), before) {
		t.Errorf("a refused call has written")
	}
}

func TestP4_2FormatJustFits(t *testing.T) {
	for _, x := range []struct{ disk, from, blocks int }{{16, 0, 16}, {40, 24, 16}, {40, 0, 40}, {40, 3, 37}, {17, 1, 16}} {
		c := newCache(t, newDisk(t, x.disk), 2)
		checkFormat(t, c, x.from, x.blocks, api.OK)
		j := openJournal(t, c, x.from, x.blocks)
		checkSeq(t, j, 0, api.OK)
		checkAppend(t, j, nil, api.OK)
		for at := -2; at < x.disk+2; at++ {
			if at >= 0 && at < x.disk && (at < x.from || at >= x.from+x.blocks) {
				checkRead(t, j, at, full(0), api.OK)
			} else {
				checkRead(t, j, at, nil, api.ErrJournalAt)
			}
		}
	}
}

func TestP4_2FormatLeavesTheHomeBlocksAndLetsAllLast(t *testing.T) {
	image := noise(40*512, 7)
	d := openDisk(t, image)
	c := newCache(t, d, 8)
	for i, at := range []int{0, 3, 4, 19, 20, 39, 3} {
		if e := c.Write(at, full(byte(i+1))); e != api.OK {
			t.Fatalf("Write(%d) = %d", at, e)
		}
	}
	before := imageOf(t, d)
	checkFormat(t, c, 4, 16, api.OK)
	after := lastingOf(t, d)
	if !bytes.Equal(before[:4*512], after[:4*512]) || !bytes.Equal(before[20*512:], after[20*512:]) {
		t.Errorf("behind Format a home block is not as it was, or does not last")
	}
	again := newCache(t, openDisk(t, after), 8)
	j := openJournal(t, again, 4, 16)
	checkSeq(t, j, 0, api.OK)
	for at := range 40 {
		if at < 4 || at >= 20 {
			checkRead(t, j, at, blockOf(before, at), api.OK)
		}
	}
}

func TestP4_3OpenFindsNone(t *testing.T) {
	for seed := range uint32(20) {
		d := openDisk(t, noise(40*512, seed))
		before := imageOf(t, d)
		c := newCache(t, d, 8)
		for from := range 25 {
			checkOpenRefused(t, c, from, 16, api.ErrJournalNone)
		}
		if held, _ := c.Held(); len(held) != 0 || !bytes.Equal(imageOf(t, d), before) {
			t.Errorf("a refused Open has changed something: held %v", held)
		}
	}
	for _, name := range []byte{0, 1, 2, 3, 255} {
		c := newCache(t, openDisk(t, bytes.Repeat(full(name), 40)), 8)
		checkOpenRefused(t, c, 4, 16, api.ErrJournalNone)
	}
}

func TestP4_3OpenOfOtherNumbersThanFormats(t *testing.T) {
	d, c, j := made(t)
	for i := range 20 {
		checkAppend(t, j, puts(i%4, i, 20+i, i), api.OK)
	}
	checkFlush(t, j, api.OK)
	before := imageOf(t, d)
	for from := 0; from <= 24; from++ {
		for blocks := 16; from+blocks <= 40; blocks++ {
			if from != 4 || blocks != 16 {
				checkOpenRefused(t, c, from, blocks, api.ErrJournalNone)
			}
		}
	}
	if !bytes.Equal(imageOf(t, d), before) {
		t.Errorf("a refused Open has written")
	}
	checkSeq(t, openJournal(t, c, 4, 16), 20, api.OK)
}

func TestP4_3OpenOfAJournalThatWasMovedOrSpoilt(t *testing.T) {
	d, _, j := made(t)
	checkAppend(t, j, puts(1, 'A', 30, 'B'), api.OK)
	checkFlush(t, j, api.OK)
	image := imageOf(t, d)
	moved := make([]byte, len(image))
	copy(moved[20*512:], image[4*512:20*512])
	checkOpenRefused(t, newCache(t, openDisk(t, moved), 8), 20, 16, api.ErrJournalNone)
	for at := range 512 {
		spoilt := bytes.Clone(image)
		spoilt[4*512+at] ^= 1 << (at % 8)
		checkOpenRefused(t, newCache(t, openDisk(t, spoilt), 8), 4, 16, api.ErrJournalNone)
	}
}

func TestP4_3OpenLetsLastWhatItFinds(t *testing.T) {
	d, c, j := made(t)
	checkAppend(t, j, puts(1, 'A'), api.OK)
	checkAppend(t, j, puts(1, 'B', 30, 'C'), api.OK)
	j = openJournal(t, c, 4, 16)
	checkSeq(t, j, 2, api.OK)
	again := openJournal(t, newCache(t, openDisk(t, lastingOf(t, d)), 8), 4, 16)
	checkSeq(t, again, 2, api.OK)
	checkRead(t, again, 1, full('B'), api.OK)
	checkRead(t, again, 30, full('C'), api.OK)
}

func TestP4_4AppendRefusesPlaces(t *testing.T) {
	_, _, j := made(t)
	for _, at := range []int{-1, math.MinInt, 4, 5, 18, 19, 40, 41, 1 << 24, 1<<24 + 3, 1 << 32, math.MaxInt} {
		checkAppend(t, j, puts(at, 'A'), api.ErrJournalAt)
		checkAppend(t, j, puts(1, 'A', at, 'A'), api.ErrJournalAt)
		checkRead(t, j, at, nil, api.ErrJournalAt)
	}
	for i, at := range []int{0, 3, 20, 39} {
		checkAppend(t, j, puts(at, 'A'+i), api.OK)
		checkRead(t, j, at, full(byte('A'+i)), api.OK)
	}
	checkRead(t, j, 1, full(0), api.OK)
	checkSeq(t, j, 4, api.OK)
}

func TestP4_4AppendRefusesData(t *testing.T) {
	_, _, j := made(t)
	for _, size := range []int{0, 1, 497, 511, 513, 1024} {
		checkAppend(t, j, []api.Put{{At: 1, Data: noise(size, 1)}}, api.ErrJournalData)
		checkAppend(t, j, []api.Put{{At: 2, Data: full('A')}, {At: 1, Data: noise(size, 1)}}, api.ErrJournalData)
	}
	checkRead(t, j, 2, full(0), api.OK)
	checkAppend(t, j, []api.Put{{At: 1, Data: noise(512, 1)}}, api.OK)
	checkRead(t, j, 1, noise(512, 1), api.OK)
	checkSeq(t, j, 1, api.OK)
}

func TestP4_4AppendTellsTheFirstErrorPutByPut(t *testing.T) {
	_, _, j := made(t)
	short := full('A')[:511]
	five := puts(20, 1, 21, 1, 22, 1, 23, 1, 24, 1)
	for _, x := range []struct {
		puts []api.Put
		want api.Errno
	}{
		{[]api.Put{{At: 4, Data: short}}, api.ErrJournalAt},
		{[]api.Put{{At: -1}}, api.ErrJournalAt},
		{[]api.Put{{At: 3}}, api.ErrJournalData},
		{[]api.Put{{At: 3, Data: short}, {At: 4, Data: full('A')}}, api.ErrJournalData},
		{[]api.Put{{At: 4, Data: full('A')}, {At: 3, Data: short}}, api.ErrJournalAt},
		{append(slices.Clone(five), api.Put{At: 40, Data: full('A')}), api.ErrJournalAt},
		{append(slices.Clone(five), api.Put{At: 39, Data: short}), api.ErrJournalData},
		{append(slices.Clone(five), api.Put{At: 39, Data: short}, api.Put{At: 19}), api.ErrJournalData},
		{five, api.ErrJournalLarge},
	} {
		checkAppend(t, j, x.puts, x.want)
	}
	checkSeq(t, j, 0, api.OK)
}

func TestP4_4TheLaterPutStands(t *testing.T) {
	d, _, j := made(t)
	checkAppend(t, j, puts(3, 'A', 20, 'B', 3, 'C', 21, 'D', 20, 'E', 3, 'F'), api.OK)
	for range 2 {
		checkRead(t, j, 3, full('F'), api.OK)
		checkRead(t, j, 20, full('E'), api.OK)
		checkRead(t, j, 21, full('D'), api.OK)
		j = openJournal(t, newCache(t, openDisk(t, imageOf(t, d)), 8), 4, 16)
	}
}

// different makes a transaction of just so many different home blocks, each twice.
func different(home []int, count int, seed int) []api.Put {
	var out []api.Put
	for i := range 2 * count {
		at := home[(seed+i%count)%len(home)]
		out = append(out, api.Put{At: at, Data: noise(512, uint32(seed*1000+i))})
	}
	return out
}

func TestP4_4AsManyDifferentBlocksAsMostTellsAgainAndAgain(t *testing.T) {
	for _, blocks := range []int{16, 17, 18, 19, 31, 32, 64, 65, 200} {
		most, _ := journal.Most(blocks)
		total := 5 + blocks + most + 3
		d := newDisk(t, total)
		c := newCache(t, d, 8)
		checkFormat(t, c, 5, blocks, api.OK)
		j := openJournal(t, c, 5, blocks)
		var home []int
		for at := range total {
			if at < 5 || at >= 5+blocks {
				home = append(home, at)
			}
		}
		want := make([]byte, total*512)
		for n := range 12 {
			checkAppend(t, j, different(home, most+1, n), api.ErrJournalLarge)
			count := most - n/3%2*most/2
			list := different(home, count, n)
			checkAppend(t, j, list, api.OK)
			for _, p := range list {
				copy(want[p.At*512:], p.Data)
			}
			for _, at := range home {
				checkRead(t, j, at, blockOf(want, at), api.OK)
			}
			checkSeq(t, j, n+1, api.OK)
		}
	}
}

func TestP4_4ARefusedAppendChangesNothing(t *testing.T) {
	d, c, j := made(t)
	for i := range 9 {
		checkAppend(t, j, puts(1, i, 20+i, i, 30, i), api.OK)
		image, lasting := imageOf(t, d), lastingOf(t, d)
		pending, _ := d.Pending()
		held, _ := c.Held()
		checkAppend(t, j, puts(1, 99, 4, 99), api.ErrJournalAt)
		checkAppend(t, j, []api.Put{{At: 1, Data: full(99)}, {At: 2, Data: full(99)[:511]}}, api.ErrJournalData)
		checkAppend(t, j, puts(1, 99, 20, 99, 21, 99, 22, 99, 23, 99), api.ErrJournalLarge)
		nowPending, _ := d.Pending()
		nowHeld, _ := c.Held()
		if !bytes.Equal(imageOf(t, d), image) || !bytes.Equal(lastingOf(t, d), lasting) || !slices.Equal(pending, nowPending) || !slices.Equal(held, nowHeld) {
			t.Errorf("behind transaction %d a refused Append has changed something", i)
		}
		checkSeq(t, j, i+1, api.OK)
		checkRead(t, j, 1, full(byte(i)), api.OK)
		checkRead(t, j, 2, full(0), api.OK)
	}
}

func TestP4_5ReadIsWhatTheTransactionsLeave(t *testing.T) {
	image := noise(40*512, 3)
	for _, room := range []int{1, 2, 8, 4096} {
		d := openDisk(t, image)
		c := newCache(t, d, room)
		checkFormat(t, c, 4, 16, api.OK)
		j := openJournal(t, c, 4, 16)
		want := bytes.Clone(image)
		for n := range 60 {
			list := different([]int{0, 1, 2, 3, 20, 21, 25, 30, 38, 39}, n%5, n)
			checkAppend(t, j, list, api.OK)
			for _, p := range list {
				copy(want[p.At*512:], p.Data)
			}
			switch n % 11 {
			case 4:
				checkFlush(t, j, api.OK)
			case 7:
				checkCheckpoint(t, j, api.OK)
			case 9:
				j = openJournal(t, c, 4, 16)
			}
			for at := range 40 {
				if at < 4 || at >= 20 {
					checkRead(t, j, at, blockOf(want, at), api.OK)
				}
			}
			checkSeq(t, j, n+1, api.OK)
		}
	}
}

func TestP4_6FlushLetsAllLast(t *testing.T) {
	d, _, j := made(t)
	for n := range 25 {
		checkAppend(t, j, puts(1, n, 20+n%20, n), api.OK)
		if n%3 == 0 {
			continue
		}
		checkFlush(t, j, api.OK)
		again := openJournal(t, newCache(t, openDisk(t, lastingOf(t, d)), 8), 4, 16)
		checkSeq(t, again, n+1, api.OK)
		checkRead(t, again, 1, full(byte(n)), api.OK)
		checkRead(t, again, 20+n%20, full(byte(n)), api.OK)
	}
}

func TestP4_7CheckpointBringsAllHome(t *testing.T) {
	image := noise(40*512, 5)
	d := openDisk(t, image)
	c := newCache(t, d, 8)
	checkFormat(t, c, 4, 16, api.OK)
	j := openJournal(t, c, 4, 16)
	want := bytes.Clone(image)
	for n := range 40 {
		for k := range n % 4 {
			list := different([]int{0, 3, 20, 27, 39}, (n+k)%5, n)
			checkAppend(t, j, list, api.OK)
			for _, p := range list {
				copy(want[p.At*512:], p.Data)
			}
		}
		seq, _ := j.Seq()
		checkCheckpoint(t, j, api.OK)
		lasting, e := d.Image()
		if e != api.OK || !bytes.Equal(lasting[:4*512], want[:4*512]) || !bytes.Equal(lasting[20*512:], want[20*512:]) {
			t.Fatalf("behind Checkpoint %d the disk's own home blocks are others: %d", n, e)
		}
		again := openJournal(t, newCache(t, openDisk(t, lasting), 8), 4, 16)
		checkSeq(t, again, seq, api.OK)
		checkSeq(t, j, seq, api.OK)
	}
}

func TestP4_8SeqCountsOnBehindOpen(t *testing.T) {
	d, c, j := made(t)
	count := 0
	for round := range 8 {
		for range round {
			checkAppend(t, j, puts(1, count), api.OK)
			count++
			checkSeq(t, j, count, api.OK)
		}
		switch round % 4 {
		case 1:
			j = openJournal(t, c, 4, 16)
		case 2:
			d = openDisk(t, imageOf(t, d))
			c = newCache(t, d, 3)
			j = openJournal(t, c, 4, 16)
		case 3:
			checkCheckpoint(t, j, api.OK)
		}
		checkSeq(t, j, count, api.OK)
	}
	checkFormat(t, c, 4, 16, api.OK)
	checkSeq(t, openJournal(t, c, 4, 16), 0, api.OK)
}

func TestP4LargeJournals(t *testing.T) {
	d := newDisk(t, 524288)
	c := newCache(t, d, 4096)
	checkFormat(t, c, 1, 524288, api.ErrJournalRoom)
	checkFormat(t, c, 0, 524289, api.ErrJournalRoom)
	checkFormat(t, c, 0, 524288, api.OK)
	j := openJournal(t, c, 0, 524288)
	checkAppend(t, j, nil, api.OK)
	checkAppend(t, j, puts(524287, 'A'), api.ErrJournalAt)
	checkRead(t, j, 0, nil, api.ErrJournalAt)
	checkSeq(t, openJournal(t, c, 0, 524288), 1, api.OK)
}

func TestP4LargeTransactionsOfTheDisksLastBlocks(t *testing.T) {
	const total, blocks = 524288, 4096
	d := newDisk(t, total)
	c := newCache(t, d, 16)
	checkFormat(t, c, 100000, blocks, api.OK)
	j := openJournal(t, c, 100000, blocks)
	for n := range 3 {
		var list []api.Put
		for i := range blocks/2 - 4 {
			list = append(list, api.Put{At: total - 1 - i, Data: noise(512, uint32(n*5000+i))})
		}
		checkAppend(t, j, list, api.OK)
		checkAppend(t, j, append(list, api.Put{At: 0, Data: full(1)}), api.ErrJournalLarge)
		j = openJournal(t, c, 100000, blocks)
		checkSeq(t, j, n+1, api.OK)
		for i := range blocks/2 - 4 {
			checkRead(t, j, total-1-i, noise(512, uint32(n*5000+i)), api.OK)
		}
	}
}

func TestR2R6EveryCallWithThePowerOff(t *testing.T) {
	d, c, j := made(t)
	checkAppend(t, j, puts(1, 'A'), api.OK)
	checkRead(t, j, 1, full('A'), api.OK)
	darken(t, d)
	before := imageOf(t, d)
	checkMost(t, 16, 4, api.OK)
	for _, x := range []struct{ from, blocks int }{{4, 16}, {4, 17}, {24, 16}, {25, 16}, {-1, 16}, {4, 15}, {4, 524289}} {
		checkFormat(t, c, x.from, x.blocks, api.ErrDiskOff)
		checkOpenRefused(t, c, x.from, x.blocks, api.ErrDiskOff)
		checkFormat(t, nil, x.from, x.blocks, api.ErrNil)
		checkOpenRefused(t, nil, x.from, x.blocks, api.ErrNil)
	}
	for _, list := range [][]api.Put{nil, puts(1, 'B'), puts(4, 'B'), {{At: 1}}, puts(20, 1, 21, 1, 22, 1, 23, 1, 24, 1)} {
		checkAppend(t, j, list, api.ErrDiskOff)
	}
	for _, at := range []int{-1, 0, 1, 4, 39, 40} {
		checkRead(t, j, at, nil, api.ErrDiskOff)
	}
	checkFlush(t, j, api.ErrDiskOff)
	checkCheckpoint(t, j, api.ErrDiskOff)
	checkSeq(t, j, 0, api.ErrDiskOff)
	if !bytes.Equal(imageOf(t, d), before) {
		t.Errorf("with the power off something has changed")
	}
}

func TestR3NilJournal(t *testing.T) {
	var j *journal.Journal
	checkAppend(t, j, nil, api.ErrNil)
	checkAppend(t, j, puts(-1, 'A'), api.ErrNil)
	checkRead(t, j, 1, nil, api.ErrNil)
	checkRead(t, j, -1, nil, api.ErrNil)
	checkFlush(t, j, api.ErrNil)
	checkCheckpoint(t, j, api.ErrNil)
	checkSeq(t, j, 0, api.ErrNil)
}

func TestR5WhatOnlyTellsWritesNothing(t *testing.T) {
	d, _, j := made(t)
	checkAppend(t, j, puts(1, 'A', 20, 'B'), api.OK)
	before, _ := d.Pending()
	if e := d.Fuse(0); e != api.OK {
		t.Fatalf("Fuse(0) = %d", e)
	}
	checkMost(t, 16, 4, api.OK)
	checkRead(t, j, 1, full('A'), api.OK)
	checkRead(t, j, 30, full(0), api.OK)
	checkRead(t, j, 4, nil, api.ErrJournalAt)
	checkSeq(t, j, 1, api.OK)
	after, _ := d.Pending()
	if !d.On() || !slices.Equal(before, after) {
		t.Errorf("a call that tells has written or flushed: on %v, pending %v, then %v", d.On(), before, after)
	}
}

func TestR5ARefusedCallBurnsNoFuse(t *testing.T) {
	d, c, j := made(t)
	if e := d.Fuse(0); e != api.OK {
		t.Fatalf("Fuse(0) = %d", e)
	}
	checkAppend(t, j, puts(4, 'A'), api.ErrJournalAt)
	checkAppend(t, j, []api.Put{{At: 1}}, api.ErrJournalData)
	checkAppend(t, j, puts(20, 1, 21, 1, 22, 1, 23, 1, 24, 1), api.ErrJournalLarge)
	checkFormat(t, c, 25, 16, api.ErrJournalRoom)
	checkOpenRefused(t, c, 25, 16, api.ErrJournalRoom)
	checkOpenRefused(t, c, 24, 16, api.ErrJournalNone)
	if !d.On() {
		t.Fatalf("a refused call has turned the power off")
	}
	checkFlush(t, j, api.ErrDiskOff)
	if d.On() {
		t.Errorf("the power is on behind a Flush with the fuse at 0")
	}
}

func TestR5TwoDisksHaveNothingInCommon(t *testing.T) {
	_, _, one := made(t)
	_, _, two := made(t)
	checkAppend(t, one, puts(1, 'A'), api.OK)
	checkRead(t, two, 1, full(0), api.OK)
	checkSeq(t, two, 0, api.OK)
	checkAppend(t, two, puts(1, 'B'), api.OK)
	checkRead(t, one, 1, full('A'), api.OK)
}

// spoil writes over all of a list's memory, the spare room too.
func spoil(data []byte) {
	data = data[:cap(data)]
	for i := range data {
		data[i] ^= 0xff
	}
}

func TestR4WhatIsHandedInIsNeitherChangedNorKept(t *testing.T) {
	d, c, j := made(t)
	for n := range 12 {
		list := make([]api.Put, 3, 8)
		spare := list[:8]
		for i := range spare {
			data := make([]byte, 512, 700)
			copy(data[:700], noise(700, uint32(n*10+i)))
			spare[i] = api.Put{At: 20 + i%2, Data: data}
		}
		checkAppend(t, j, list, api.OK)
		for i := range spare {
			if spare[i].At != 20+i%2 || len(spare[i].Data) != 512 || !bytes.Equal(spare[i].Data[:700], noise(700, uint32(n*10+i))) {
				t.Fatalf("Append has changed put %d of what it was handed", i)
			}
		}
		for i := range spare {
			spoil(spare[i].Data)
			spare[i] = api.Put{At: 3, Data: full('X')}
		}
		for range 2 {
			checkRead(t, j, 20, noise(512, uint32(n*10+2)), api.OK)
			checkRead(t, j, 21, noise(512, uint32(n*10+1)), api.OK)
			checkRead(t, j, 3, full(0), api.OK)
			if n%4 == 1 {
				checkCheckpoint(t, j, api.OK)
			}
			if n%4 == 2 {
				j = openJournal(t, c, 4, 16)
			}
		}
	}
	again := openJournal(t, newCache(t, openDisk(t, imageOf(t, d)), 8), 4, 16)
	checkRead(t, again, 20, noise(512, 112), api.OK)
}

func TestR4WhatIsHandedOutIsNewMemory(t *testing.T) {
	_, _, j := made(t)
	checkAppend(t, j, puts(1, 'A'), api.OK)
	for range 2 {
		for _, x := range []struct {
			at   int
			name byte
		}{{1, 'A'}, {2, 0}} {
			one, _ := j.Read(x.at)
			two, _ := j.Read(x.at)
			spoil(one)
			if !bytes.Equal(two, full(x.name)) {
				t.Errorf("Read(%d): what was handed out before is changed", x.at)
			}
			checkRead(t, j, x.at, full(x.name), api.OK)
			_ = append(two, 1)
			checkRead(t, j, x.at, full(x.name), api.OK)
		}
		checkCheckpoint(t, j, api.OK)
	}
}
