package txn_test

import (
	"bytes"
	"maps"
	"math"
	"slices"
	"testing"

	"cistern/api"
	"cistern/cache"
	"cistern/disk"
	"cistern/field"
	"cistern/journal"
	"cistern/txn"
)

// full gives a block that is one byte all through.
func full(name byte) []byte { return bytes.Repeat([]byte{name}, 512) }

// noise gives bytes that look like chance and are the same in each run.
func noise(size int, seed uint32) []byte {
	out := make([]byte, size)
	for i := range out {
		seed = seed*1664525 + 1013904223
		out[i] = byte(seed >> 24)
	}
	return out
}

// bench is a store, and what it stands on.
type bench struct {
	t *testing.T
	d *disk.Disk
	c *cache.Cache
	j *journal.Journal
	s *txn.Store
}

// laid gives a store over a new journal at that place of a disk of zeros.
func laid(t *testing.T, total int, from int, blocks int) *bench {
	t.Helper()
	d, e := disk.New(total)
	if e != api.OK {
		t.Fatalf("disk.New(%d) = %d", total, e)
	}
	return laidOn(t, d, from, blocks)
}

func laidOn(t *testing.T, d *disk.Disk, from int, blocks int) *bench {
	t.Helper()
	c, e := cache.New(d, 8)
	if e != api.OK {
		t.Fatalf("cache.New = %d", e)
	}
	if e := journal.Format(c, from, blocks); e != api.OK {
		t.Fatalf("journal.Format(c, %d, %d) = %d", from, blocks, e)
	}
	return opened(t, c, from, blocks)
}

func opened(t *testing.T, c *cache.Cache, from int, blocks int) *bench {
	t.Helper()
	j, e := journal.Open(c, from, blocks)
	if e != api.OK {
		t.Fatalf("journal.Open(c, %d, %d) = %d", from, blocks, e)
	}
	return &bench{t: t, d: c.Disk, c: c, j: j, s: openStore(t, j)}
}

func openStore(t *testing.T, j *journal.Journal) *txn.Store {
	t.Helper()
	s, e := txn.Open(j)
	if s == nil || e != api.OK {
		t.Fatalf("Open = a store: %v, %d", s != nil, e)
	}
	return s
}

// made gives the store of the examples: its journal's own blocks are 0 to 19, its home blocks 20 to 39,
// and a transaction may have 6 of them.
func made(t *testing.T) *bench {
	t.Helper()
	return laid(t, 40, 0, 20)
}

// again gives the store that is found on a disk of that image.
func again(t *testing.T, image []byte, from int, blocks int) *bench {
	t.Helper()
	d, e := disk.Open(image)
	if e != api.OK {
		t.Fatalf("disk.Open = %d", e)
	}
	c, e := cache.New(d, 8)
	if e != api.OK {
		t.Fatalf("cache.New = %d", e)
	}
	return opened(t, c, from, blocks)
}

func (b *bench) begin() *txn.Txn {
	b.t.Helper()
	x, e := b.s.Begin()
	if x == nil || e != api.OK {
		b.t.Fatalf("Begin() = a transaction: %v, %d", x != nil, e)
	}
	return x
}

// commit does a whole transaction: pairs of a block and the byte that it shall hold.
func (b *bench) commit(pairs ...int) {
	b.t.Helper()
	x := b.begin()
	b.write(x, pairs...)
	checkAnswer(b.t, "Commit()", x.Commit(), api.OK)
}

func (b *bench) write(x *txn.Txn, pairs ...int) {
	b.t.Helper()
	for i := 0; i < len(pairs); i += 2 {
		checkWrite(b.t, x, pairs[i], full(byte(pairs[i+1])), api.OK)
	}
}

func (b *bench) checkSeq(want int) {
	b.t.Helper()
	if got, e := b.j.Seq(); got != want || e != api.OK {
		b.t.Errorf("the journal's Seq() = %d, %d; want %d", got, e, want)
	}
}

// darken turns the power off.
func (b *bench) darken() {
	b.t.Helper()
	checkAnswer(b.t, "Fuse(0)", b.d.Fuse(0), api.OK)
	checkAnswer(b.t, "Flush() of the disk", b.d.Flush(), api.ErrDiskOff)
}

// image gives what the disk would hold if just these pending writes stayed.
func (b *bench) image(keep []int) []byte {
	b.t.Helper()
	image, e := b.d.Crash(keep)
	if e != api.OK {
		b.t.Fatalf("Crash(%v) = %d", keep, e)
	}
	return image
}

func (b *bench) pending() []int {
	b.t.Helper()
	pending, e := b.d.Pending()
	if e != api.OK {
		b.t.Fatalf("Pending() = %d", e)
	}
	return pending
}

// whole gives the disk as it is seen.
func (b *bench) whole() []byte { return b.image(firstPlaces(len(b.pending()))) }

func firstPlaces(n int) []int {
	places := make([]int, n)
	for i := range places {
		places[i] = i
	}
	return places
}

type reader interface {
	Read(at int) ([]byte, api.Errno)
}

func checkRead(t *testing.T, r reader, at int, want []byte, wantErr api.Errno) {
	t.Helper()
	if got, e := r.Read(at); !bytes.Equal(got, want) || e != wantErr {
		t.Errorf("Read(%d) of a %T = %d bytes, error %d, as wanted: %v; want error %d", at, r, len(got), e, bytes.Equal(got, want), wantErr)
	}
}

func checkWrite(t *testing.T, x *txn.Txn, at int, data []byte, want api.Errno) {
	t.Helper()
	if e := x.Write(at, data); e != want {
		t.Errorf("Write(%d, %d bytes) = %d; want %d", at, len(data), e, want)
	}
}

func checkMark(t *testing.T, x *txn.Txn, want int, wantErr api.Errno) {
	t.Helper()
	if got, e := x.Mark(); got != want || e != wantErr {
		t.Errorf("Mark() = %d, %d; want %d, %d", got, e, want, wantErr)
	}
}

func checkBack(t *testing.T, x *txn.Txn, mark int, want api.Errno) {
	t.Helper()
	if e := x.Back(mark); e != want {
		t.Errorf("Back(%d) = %d; want %d", mark, e, want)
	}
}

func checkNoBegin(t *testing.T, s *txn.Store, want api.Errno) {
	t.Helper()
	if x, e := s.Begin(); x != nil || e != want {
		t.Errorf("Begin() = a transaction: %v, %d; want none, %d", x != nil, e, want)
	}
}

func checkOwns(t *testing.T, s *txn.Store, x *txn.Txn, want api.Errno) {
	t.Helper()
	if e := s.Owns(x); e != want {
		t.Errorf("Owns(a transaction: %v) = %d; want %d", x != nil, e, want)
	}
}

func checkAnswer(t *testing.T, what string, got api.Errno, want api.Errno) {
	t.Helper()
	if got != want {
		t.Errorf("%s = %d; want %d", what, got, want)
	}
}

// checkRefused asks every method of a transaction, with arguments that are good, bad and several times bad.
func checkRefused(t *testing.T, x *txn.Txn, want api.Errno) {
	t.Helper()
	for _, at := range []int{math.MinInt, -1, 0, 19, 20, 39, 40, math.MaxInt} {
		checkRead(t, x, at, nil, want)
		checkWrite(t, x, at, full('Z'), want)
		checkWrite(t, x, at, nil, want)
	}
	for _, mark := range []int{math.MinInt, -1, 0, 1, math.MaxInt} {
		checkBack(t, x, mark, want)
	}
	checkMark(t, x, 0, want)
	checkAnswer(t, "Commit()", x.Commit(), want)
	checkAnswer(t, "Abort()", x.Abort(), want)
}

func TestP5ExamplesInTheirOrder(t *testing.T) {
	b := made(t)
	x := b.begin()
	checkNoBegin(t, b.s, api.ErrTxnOpen)
	checkWrite(t, x, 20, full('A'), api.OK)
	checkRead(t, x, 20, full('A'), api.OK)
	checkRead(t, b.s, 20, full(0), api.OK)
	checkMark(t, x, 0, api.OK)
	checkWrite(t, x, 20, full('B'), api.OK)
	checkWrite(t, x, 21, full('C'), api.OK)
	checkMark(t, x, 1, api.OK)
	checkBack(t, x, 0, api.OK)
	checkRead(t, x, 20, full('A'), api.OK)
	checkRead(t, x, 21, full(0), api.OK)
	checkBack(t, x, 1, api.ErrTxnMark)
	checkMark(t, x, 1, api.OK)
	checkWrite(t, x, 3, full('A'), api.ErrJournalAt)
	checkWrite(t, x, 20, noise(3, 1), api.ErrJournalData)
	checkWrite(t, x, 3, noise(3, 1), api.ErrJournalAt)
	checkBack(t, x, -1, api.ErrTxnMark)
	checkOwns(t, b.s, x, api.OK)
	checkAnswer(t, "Commit()", x.Commit(), api.OK)
	checkRead(t, b.s, 20, full('A'), api.OK)
	checkOwns(t, b.s, x, api.ErrTxnOver)
	checkRead(t, x, 20, nil, api.ErrTxnOver)
	checkAnswer(t, "Commit()", x.Commit(), api.ErrTxnOver)
	checkAnswer(t, "Abort()", x.Abort(), api.ErrTxnOver)
	y := b.begin()
	checkAnswer(t, "Abort()", y.Abort(), api.OK)
	z := b.begin()
	if z == x || z == y {
		t.Errorf("Begin() gives a transaction that is over")
	}
	other := made(t)
	checkOwns(t, other.s, z, api.ErrTxnForeign)
	checkOwns(t, other.s, nil, api.ErrNil)
	b.checkSeq(1)
}

func TestP5_1Open(t *testing.T) {
	if s, e := txn.Open(nil); s != nil || e != api.ErrNil {
		t.Errorf("Open(nil) = a store: %v, %d", s != nil, e)
	}
	b := made(t)
	checkAnswer(t, "Append", b.j.Append([]api.Put{{At: 20, Data: full('A')}}), api.OK)
	before := b.pending()
	s := openStore(t, b.j)
	checkRead(t, s, 20, full('A'), api.OK)
	if x, e := s.Begin(); x == nil || e != api.OK {
		t.Errorf("Begin() of a new store = a transaction: %v, %d", x != nil, e)
	}
	if !slices.Equal(b.pending(), before) {
		t.Errorf("Open has written: %v, then %v", before, b.pending())
	}
	b.darken()
	if s, e := txn.Open(b.j); s != nil || e != api.ErrDiskOff {
		t.Errorf("Open with the power off = a store: %v, %d", s != nil, e)
	}
}

func TestP5_2OneTransactionIsOpenAtATime(t *testing.T) {
	b := made(t)
	x := b.begin()
	b.write(x, 20, 'A')
	for range 3 {
		checkNoBegin(t, b.s, api.ErrTxnOpen)
	}
	checkOwns(t, b.s, x, api.OK)
	checkRead(t, x, 20, full('A'), api.OK)
	checkAnswer(t, "Commit()", x.Commit(), api.OK)
	b.checkSeq(1)
	checkRead(t, b.s, 20, full('A'), api.OK)
}

// ends are the ways in which a transaction that has written 20 and 21 is over.
func ends() map[string]func(b *bench, x *txn.Txn) api.Errno {
	return map[string]func(b *bench, x *txn.Txn) api.Errno{
		"Commit": func(b *bench, x *txn.Txn) api.Errno { return x.Commit() },
		"Abort":  func(b *bench, x *txn.Txn) api.Errno { return x.Abort() },
		"a refused Commit": func(b *bench, x *txn.Txn) api.Errno {
			for at := 22; at < 27; at++ {
				checkWrite(b.t, x, at, full('L'), api.OK)
			}
			checkAnswer(b.t, "Commit() of 7 blocks", x.Commit(), api.ErrJournalLarge)
			return api.OK
		},
		"a Commit of nothing": func(b *bench, x *txn.Txn) api.Errno {
			checkBack(b.t, x, 0, api.OK)
			return x.Commit()
		},
	}
}

func TestP5_2BeginBehindEveryEnd(t *testing.T) {
	for name, end := range ends() {
		b := made(t)
		x := b.begin()
		checkMark(t, x, 0, api.OK)
		b.write(x, 20, 'A', 21, 'B')
		checkMark(t, x, 1, api.OK)
		checkAnswer(t, name, end(b, x), api.OK)
		y := b.begin()
		if y == x {
			t.Errorf("behind %s: Begin() gives the transaction that is over", name)
		}
		for at := 20; at < 40; at++ {
			committed, _ := b.s.Read(at)
			checkRead(t, y, at, committed, api.OK)
		}
		checkBack(t, y, 0, api.ErrTxnMark)
		checkMark(t, y, 0, api.OK)
		checkNoBegin(t, b.s, api.ErrTxnOpen)
		seq, _ := b.j.Seq()
		checkAnswer(t, "Commit()", y.Commit(), api.OK)
		b.checkSeq(seq)
	}
}

func TestP5ATransactionThatIsOver(t *testing.T) {
	for name, end := range ends() {
		b := made(t)
		x := b.begin()
		checkMark(t, x, 0, api.OK)
		b.write(x, 20, 'A', 21, 'B')
		checkAnswer(t, name, end(b, x), api.OK)
		seq, _ := b.j.Seq()
		before := b.pending()
		checkRefused(t, x, api.ErrTxnOver)
		checkOwns(t, b.s, x, api.ErrTxnOver)
		y := b.begin()
		b.write(y, 22, 'C')
		checkRefused(t, x, api.ErrTxnOver)
		checkOwns(t, b.s, x, api.ErrTxnOver)
		checkOwns(t, b.s, y, api.OK)
		checkRead(t, y, 22, full('C'), api.OK)
		if !slices.Equal(b.pending(), before) {
			t.Errorf("behind %s a transaction that is over has written", name)
		}
		b.checkSeq(seq)
		checkAnswer(t, "Commit()", y.Commit(), api.OK)
		checkRead(t, b.s, 22, full('C'), api.OK)
	}
}

func TestP5_3AStoreReadsWhatIsCommitted(t *testing.T) {
	b := laid(t, 40, 4, 16)
	b.commit(20, 'A')
	x := b.begin()
	b.write(x, 20, 'B', 21, 'C')
	checkMark(t, x, 0, api.OK)
	b.write(x, 20, 'D', 3, 'E')
	for range 2 {
		checkRead(t, b.s, 20, full('A'), api.OK)
		checkRead(t, b.s, 21, full(0), api.OK)
		checkRead(t, b.s, 3, full(0), api.OK)
	}
	checkAnswer(t, "Commit()", x.Commit(), api.OK)
	checkRead(t, b.s, 20, full('D'), api.OK)
	checkRead(t, b.s, 21, full('C'), api.OK)
	checkRead(t, b.s, 3, full('E'), api.OK)
	for _, at := range []int{math.MinInt, -1, 4, 5, 18, 19, 40, 41, math.MaxInt} {
		checkRead(t, b.s, at, nil, api.ErrJournalAt)
	}
	for _, at := range []int{0, 39} {
		checkRead(t, b.s, at, full(0), api.OK)
	}
	checkAnswer(t, "Append", b.j.Append([]api.Put{{At: 20, Data: full('F')}}), api.OK)
	checkRead(t, b.s, 20, full('F'), api.OK)
}

func TestP5_4FlushLetsAllLastThatWasCommitted(t *testing.T) {
	b := made(t)
	for n := range 30 {
		b.commit(20+n%20, n, 39, n)
		x := b.begin()
		b.write(x, 20+n%20, 99, 38, 99)
		checkAnswer(t, "Flush()", b.s.Flush(), api.OK)
		if pending := b.pending(); len(pending) != 0 {
			t.Errorf("behind Flush these writes are pending: %v", pending)
		}
		image, e := b.d.Image()
		checkAnswer(t, "Image()", e, api.OK)
		found := again(t, image, 0, 20)
		found.checkSeq(n + 1)
		checkRead(t, found.s, 20+n%20, full(byte(n)), api.OK)
		checkRead(t, found.s, 39, full(byte(n)), api.OK)
		committed, _ := b.s.Read(38)
		checkRead(t, found.s, 38, committed, api.OK)
		checkOwns(t, b.s, x, api.OK)
		checkRead(t, x, 38, full(99), api.OK)
		checkAnswer(t, "Abort()", x.Abort(), api.OK)
	}
}

func TestP5_5ATransactionReadsWhatItHasLaidLast(t *testing.T) {
	b := made(t)
	b.commit(20, 'A', 21, 'B', 22, 'C')
	x := b.begin()
	checkRead(t, x, 20, full('A'), api.OK)
	b.write(x, 20, 'D')
	checkRead(t, x, 20, full('D'), api.OK)
	b.write(x, 20, 'E')
	checkRead(t, x, 20, full('E'), api.OK)
	checkMark(t, x, 0, api.OK)
	b.write(x, 20, 'F', 21, 'G', 23, 'H')
	checkRead(t, x, 21, full('G'), api.OK)
	checkRead(t, x, 23, full('H'), api.OK)
	checkBack(t, x, 0, api.OK)
	checkRead(t, x, 20, full('E'), api.OK)
	checkRead(t, x, 21, full('B'), api.OK)
	checkRead(t, x, 22, full('C'), api.OK)
	checkRead(t, x, 23, full(0), api.OK)
	for _, at := range []int{math.MinInt, -1, 0, 19, 40, math.MaxInt} {
		checkRead(t, x, at, nil, api.ErrJournalAt)
	}
	checkAnswer(t, "Append", b.j.Append([]api.Put{{At: 20, Data: full('X')}, {At: 21, Data: full('Y')}}), api.OK)
	checkRead(t, x, 20, full('E'), api.OK)
	checkRead(t, x, 21, full('Y'), api.OK)
}

func TestP5_6WriteRefusesPlacesAndData(t *testing.T) {
	b := laid(t, 40, 4, 16)
	x := b.begin()
	b.write(x, 20, 'A')
	for _, size := range []int{0, 1, 3, 511, 513, 1024} {
		for _, at := range []int{math.MinInt, -1, 4, 5, 18, 19, 40, 41, math.MaxInt} {
			checkWrite(t, x, at, noise(size, 1), api.ErrJournalAt)
			checkWrite(t, x, at, full('Z'), api.ErrJournalAt)
		}
		for _, at := range []int{0, 3, 20, 21, 39} {
			checkWrite(t, x, at, noise(size, 1), api.ErrJournalData)
		}
	}
	checkRead(t, x, 20, full('A'), api.OK)
	for _, at := range []int{0, 3, 21, 39} {
		checkRead(t, x, at, full(0), api.OK)
	}
	for i, at := range []int{0, 3, 39} {
		checkWrite(t, x, at, noise(512, uint32(i)), api.OK)
		checkRead(t, x, at, noise(512, uint32(i)), api.OK)
	}
	checkAnswer(t, "Commit() of 4 blocks, the most", x.Commit(), api.OK)
	checkRead(t, b.s, 20, full('A'), api.OK)
	checkRead(t, b.s, 39, noise(512, 2), api.OK)
	b.checkSeq(1)
}

func TestP5_7MarkNumbers(t *testing.T) {
	b := made(t)
	x := b.begin()
	checkBack(t, x, 0, api.ErrTxnMark)
	for n := range 300 {
		if n%3 == 0 {
			b.write(x, 20+n%4, n)
		}
		checkMark(t, x, n, api.OK)
	}
	for _, mark := range []int{250, 250, 249, 100, 1, 0, 0} {
		checkBack(t, x, mark, api.OK)
		checkBack(t, x, mark+1, api.ErrTxnMark)
		checkMark(t, x, mark+1, api.OK)
	}
	checkAnswer(t, "Abort()", x.Abort(), api.OK)
	checkMark(t, b.begin(), 0, api.OK)
}

func TestP5_8Back(t *testing.T) {
	b := made(t)
	b.commit(20, 'A')
	x := b.begin()
	for _, mark := range []int{math.MinInt, -1, 0, 1, math.MaxInt} {
		checkBack(t, x, mark, api.ErrTxnMark)
	}
	b.write(x, 20, 'B')
	checkMark(t, x, 0, api.OK)
	b.write(x, 20, 'C', 21, 'C')
	checkMark(t, x, 1, api.OK)
	b.write(x, 20, 'D', 22, 'D')
	checkMark(t, x, 2, api.OK)
	b.write(x, 20, 'E', 21, 'E', 22, 'E', 23, 'E')
	for _, mark := range []int{math.MinInt, -1, 3, 4, math.MaxInt} {
		checkBack(t, x, mark, api.ErrTxnMark)
	}
	checkBlocks(t, x, "EEEE")
	checkBack(t, x, 2, api.OK)
	checkBlocks(t, x, "DCD\x00")
	checkBack(t, x, 2, api.OK)
	checkBlocks(t, x, "DCD\x00")
	b.write(x, 23, 'F', 22, 'F')
	checkBack(t, x, 2, api.OK)
	checkBlocks(t, x, "DCD\x00")
	checkBack(t, x, 1, api.OK)
	checkBlocks(t, x, "CC\x00\x00")
	checkBack(t, x, 2, api.ErrTxnMark)
	checkMark(t, x, 2, api.OK)
	b.write(x, 20, 'G')
	checkBack(t, x, 2, api.OK)
	checkBlocks(t, x, "CC\x00\x00")
	checkBack(t, x, 0, api.OK)
	checkBlocks(t, x, "B\x00\x00\x00")
	for mark := 1; mark < 4; mark++ {
		checkBack(t, x, mark, api.ErrTxnMark)
	}
	checkRead(t, b.s, 20, full('A'), api.OK)
	checkAnswer(t, "Commit()", x.Commit(), api.OK)
	checkBlocks(t, b.s, "B\x00\x00\x00")
}

// checkBlocks holds the blocks from 20 on against their names.
func checkBlocks(t *testing.T, r reader, names string) {
	t.Helper()
	for i := range len(names) {
		checkRead(t, r, 20+i, full(names[i]), api.OK)
	}
}

func TestP5_8MarksOverAGreatDealOfWritesAreCheap(t *testing.T) {
	b := laid(t, 12000, 0, 8192)
	const count = 3000
	x := b.begin()
	for i := range count {
		checkWrite(t, x, 8192+i, full(byte(i)), api.OK)
	}
	for n := range 200000 {
		if mark, e := x.Mark(); mark != n || e != api.OK {
			t.Fatalf("Mark() = %d, %d", mark, e)
		}
		checkWrite(t, x, 8192+n%count, full(byte(n%251)), api.OK)
	}
	for n := 199999; n > 190000; n -= 7 {
		checkBack(t, x, n, api.OK)
		checkRead(t, x, 8192+(n-1)%count, full(byte((n-1)%251)), api.OK)
	}
	checkBack(t, x, 0, api.OK)
	for i := range count {
		checkRead(t, x, 8192+i, full(byte(i)), api.OK)
	}
	checkAnswer(t, "Commit()", x.Commit(), api.OK)
	checkRead(t, b.s, 8192+count-1, full(byte((count-1)%256)), api.OK)
	b.checkSeq(1)
}

// plain is a transaction as the document says it: all writes, and all of them at each mark.
type plain struct {
	writes map[int]byte
	marks  []map[int]byte
}

func (p *plain) back(mark int) bool {
	if mark < 0 || mark >= len(p.marks) {
		return false
	}
	p.writes = maps.Clone(p.marks[mark])
	p.marks = p.marks[:mark+1]
	return true
}

func TestP5MixedCallsAgainstAPlainModel(t *testing.T) {
	for seed := range uint32(40) {
		b := made(t)
		committed := map[int]byte{}
		commits := 0
		chance := noise(9000, seed)
		for len(chance) > 0 {
			x := b.begin()
			var p plain
			p, chance = mixed(t, b, x, committed, chance)
			if len(p.writes)%5 == 4 {
				checkAnswer(t, "Abort()", x.Abort(), api.OK)
				continue
			}
			want := api.OK
			if len(p.writes) > 6 {
				want = api.ErrJournalLarge
			}
			checkAnswer(t, "Commit()", x.Commit(), want)
			if want == api.OK {
				maps.Copy(committed, p.writes)
				commits += min(len(p.writes), 1)
			}
			b.checkSeq(commits)
		}
		for at := 20; at < 40; at++ {
			checkRead(t, b.s, at, full(committed[at]), api.OK)
		}
	}
}

// mixed does calls of one transaction, as chance has it, and gives what is left of chance.
func mixed(t *testing.T, b *bench, x *txn.Txn, committed map[int]byte, chance []byte) (plain, []byte) {
	t.Helper()
	p := plain{writes: map[int]byte{}}
	for len(chance) >= 3 {
		a, at, name := chance[0], 20+int(chance[1])%9, chance[2]
		chance = chance[3:]
		switch a % 16 {
		case 0:
			return p, chance
		case 1, 2:
			checkMark(t, x, len(p.marks), api.OK)
			p.marks = append(p.marks, maps.Clone(p.writes))
		case 3, 4:
			mark := int(name)%(len(p.marks)+2) - 1
			want := api.ErrTxnMark
			if p.back(mark) {
				want = api.OK
			}
			checkBack(t, x, mark, want)
		case 5:
			checkRead(t, b.s, at, full(committed[at]), api.OK)
		default:
			checkWrite(t, x, at, full(name), api.OK)
			p.writes[at] = name
		}
		seen, ok := p.writes[at]
		if !ok {
			seen = committed[at]
		}
		checkRead(t, x, at, full(seen), api.OK)
	}
	return p, nil
}

func TestP5_9CommitWithoutWrites(t *testing.T) {
	b := made(t)
	before := b.pending()
	checkAnswer(t, "Fuse(0)", b.d.Fuse(0), api.OK)
	x := b.begin()
	checkAnswer(t, "Commit() of nothing", x.Commit(), api.OK)
	x = b.begin()
	checkMark(t, x, 0, api.OK)
	for at := 20; at < 40; at++ {
		b.write(x, at, 'A')
	}
	checkBack(t, x, 0, api.OK)
	checkAnswer(t, "Commit() of what was gone back over", x.Commit(), api.OK)
	x = b.begin()
	checkWrite(t, x, 20, nil, api.ErrJournalData)
	checkWrite(t, x, 40, full('A'), api.ErrJournalAt)
	checkAnswer(t, "Commit() of what was refused", x.Commit(), api.OK)
	b.checkSeq(0)
	if !b.d.On() || !slices.Equal(b.pending(), before) {
		t.Errorf("a Commit without writes has written: on %v, pending %v", b.d.On(), b.pending())
	}
}

func TestP5_9BytesThatAreAsTheyWereAreAWrite(t *testing.T) {
	b := made(t)
	b.commit(20, 0)
	b.checkSeq(1)
	b.commit(20, 'A')
	b.commit(20, 'A')
	b.checkSeq(3)
	x := b.begin()
	b.write(x, 20, 'B', 20, 'A')
	checkAnswer(t, "Commit()", x.Commit(), api.OK)
	b.checkSeq(4)
	checkRead(t, b.s, 20, full('A'), api.OK)
}

// A Commit and an Append of the same puts, by rising number, leave the same disk, byte by byte.
func TestP5_9CommitIsAnAppendByRisingNumber(t *testing.T) {
	for _, order := range [][]int{{25, 24, 23, 22, 21, 20}, {39, 20, 30, 21, 38, 22}, {20, 21, 22}, {33, 31, 32, 33, 31, 33}} {
		one, two := made(t), made(t)
		x := one.begin()
		puts := map[int][]byte{}
		for i, at := range order {
			puts[at] = noise(512, uint32(i))
			checkWrite(t, x, at, puts[at], api.OK)
		}
		checkMark(t, x, 0, api.OK)
		one.write(x, 35, 'Z', order[0], 'Z')
		checkBack(t, x, 0, api.OK)
		checkAnswer(t, "Commit()", x.Commit(), api.OK)
		var list []api.Put
		for _, at := range slices.Sorted(maps.Keys(puts)) {
			list = append(list, api.Put{At: at, Data: puts[at]})
		}
		checkAnswer(t, "Append", two.j.Append(list), api.OK)
		if !slices.Equal(one.pending(), two.pending()) || !bytes.Equal(one.whole(), two.whole()) {
			t.Errorf("Commit of %v leaves another disk than Append", order)
		}
		for _, p := range list {
			checkRead(t, one.s, p.At, p.Data, api.OK)
		}
		one.checkSeq(1)
	}
}

func TestP5_9AsManyBlocksAsATransactionMayHaveAndOneMore(t *testing.T) {
	for _, blocks := range []int{16, 17, 20, 64} {
		most, _ := journal.Most(blocks)
		b := laid(t, 2*blocks, 0, blocks)
		for n := range 9 {
			x := b.begin()
			for i := range most {
				checkWrite(t, x, blocks+i, full('X'), api.OK)
				checkWrite(t, x, blocks+i, full(byte(n+1)), api.OK)
			}
			checkMark(t, x, 0, api.OK)
			checkWrite(t, x, blocks+most, full('X'), api.OK)
			checkBack(t, x, 0, api.OK)
			checkAnswer(t, "Commit() of the most blocks", x.Commit(), api.OK)
			b.checkSeq(n + 1)
			b.checkTooLarge(blocks, most+1)
			for i := range most {
				checkRead(t, b.s, blocks+i, full(byte(n+1)), api.OK)
			}
			checkRead(t, b.s, blocks+most, full(0), api.OK)
		}
	}
}

// checkTooLarge commits more blocks than may be: nothing is changed, and the transaction is over.
func (b *bench) checkTooLarge(first int, count int) {
	b.t.Helper()
	seq, _ := b.j.Seq()
	pending, image := b.pending(), b.whole()
	x := b.begin()
	for i := range count {
		checkWrite(b.t, x, first+i, full('Y'), api.OK)
	}
	checkAnswer(b.t, "Commit() of one block more", x.Commit(), api.ErrJournalLarge)
	if !slices.Equal(b.pending(), pending) || !bytes.Equal(b.whole(), image) {
		b.t.Errorf("a refused Commit has written")
	}
	b.checkSeq(seq)
	checkOwns(b.t, b.s, x, api.ErrTxnOver)
	checkAnswer(b.t, "Commit() again", x.Commit(), api.ErrTxnOver)
	checkAnswer(b.t, "Abort() of the next one", b.begin().Abort(), api.OK)
}

// spent gives a store over a journal that has taken as many transactions as there may be.
func spent(t *testing.T) *bench {
	t.Helper()
	b := made(t)
	image := b.whole()
	kind, number, _, e := field.Unstamp(image[:512])
	checkAnswer(t, "Unstamp of the journal's head", e, api.OK)
	body, e := field.Pack(api.Field{Width: 3, Value: 0}, api.Field{Width: 3, Value: 20}, api.Field{Width: 8, Value: api.MaxSeq})
	checkAnswer(t, "Pack", e, api.OK)
	head, e := field.Stamp(kind, number, body)
	checkAnswer(t, "Stamp", e, api.OK)
	copy(image, head)
	found := again(t, image, 0, 20)
	found.checkSeq(api.MaxSeq)
	return found
}

func TestP5_9CommitWhereNoSequenceNumberIsLeft(t *testing.T) {
	b := spent(t)
	x := b.begin()
	b.write(x, 20, 'A')
	checkAnswer(t, "Commit()", x.Commit(), api.ErrJournalSeq)
	checkRefused(t, x, api.ErrTxnOver)
	checkRead(t, b.s, 20, full(0), api.OK)
	b.checkTooLarge(20, 7)
	checkAnswer(t, "Commit() of nothing", b.begin().Commit(), api.OK)
	b.checkSeq(api.MaxSeq)
}

func TestP5_10AbortForgets(t *testing.T) {
	b := made(t)
	b.commit(20, 'A')
	before := b.pending()
	for range 3 {
		x := b.begin()
		b.write(x, 20, 'B')
		checkMark(t, x, 0, api.OK)
		for at := 21; at < 40; at++ {
			b.write(x, at, 'B')
		}
		checkAnswer(t, "Abort()", x.Abort(), api.OK)
		checkAnswer(t, "Abort() again", x.Abort(), api.ErrTxnOver)
		checkBlocks(t, b.s, "A\x00\x00")
		checkOwns(t, b.s, x, api.ErrTxnOver)
	}
	b.checkSeq(1)
	if !slices.Equal(b.pending(), before) {
		t.Errorf("Abort has written: %v, then %v", before, b.pending())
	}
	y := b.begin()
	checkBlocks(t, y, "A\x00\x00")
}

func TestP5_11Owns(t *testing.T) {
	b, other := made(t), made(t)
	same := openStore(t, b.j)
	x := b.begin()
	checkOwns(t, b.s, x, api.OK)
	checkOwns(t, b.s, nil, api.ErrNil)
	checkOwns(t, nil, x, api.ErrNil)
	checkOwns(t, nil, nil, api.ErrNil)
	checkOwns(t, other.s, x, api.ErrTxnForeign)
	checkOwns(t, same, x, api.ErrTxnForeign)
	y := other.begin()
	checkOwns(t, other.s, y, api.OK)
	checkOwns(t, b.s, y, api.ErrTxnForeign)
	checkAnswer(t, "Commit()", x.Commit(), api.OK)
	checkAnswer(t, "Abort()", y.Abort(), api.OK)
	checkOwns(t, b.s, x, api.ErrTxnOver)
	checkOwns(t, other.s, y, api.ErrTxnOver)
	checkOwns(t, other.s, x, api.ErrTxnForeign)
	checkOwns(t, same, x, api.ErrTxnForeign)
	checkOwns(t, b.s, y, api.ErrTxnForeign)
	z := b.begin()
	checkOwns(t, b.s, z, api.OK)
	checkOwns(t, b.s, x, api.ErrTxnOver)
}

func TestR3NilStoreAndNilTransaction(t *testing.T) {
	var s *txn.Store
	checkNoBegin(t, s, api.ErrNil)
	checkRead(t, s, 20, nil, api.ErrNil)
	checkRead(t, s, -1, nil, api.ErrNil)
	checkAnswer(t, "Flush()", s.Flush(), api.ErrNil)
	checkOwns(t, s, nil, api.ErrNil)
	checkOwns(t, s, made(t).begin(), api.ErrNil)
	checkRefused(t, nil, api.ErrNil)
}

func TestR2R6EveryCallWithThePowerOff(t *testing.T) {
	b, other := made(t), made(t)
	b.commit(20, 'A')
	over := b.begin()
	checkAnswer(t, "Abort()", over.Abort(), api.OK)
	x, y := b.begin(), other.begin()
	checkMark(t, x, 0, api.OK)
	b.write(x, 20, 'B')
	b.darken()
	before := b.whole()
	if s, e := txn.Open(b.j); s != nil || e != api.ErrDiskOff {
		t.Errorf("Open = a store: %v, %d", s != nil, e)
	}
	checkNoBegin(t, b.s, api.ErrDiskOff)
	for _, at := range []int{-1, 0, 20, 39, 40} {
		checkRead(t, b.s, at, nil, api.ErrDiskOff)
	}
	checkAnswer(t, "Flush()", b.s.Flush(), api.ErrDiskOff)
	checkOwns(t, b.s, nil, api.ErrNil)
	for _, z := range []*txn.Txn{x, over, y} {
		checkOwns(t, b.s, z, api.ErrDiskOff)
	}
	// The other store's disk has power: it is asked, not the one that the transaction lies on.
	checkOwns(t, other.s, x, api.ErrTxnForeign)
	checkRefused(t, over, api.ErrDiskOff)
	checkRefused(t, x, api.ErrDiskOff)
	checkNoBegin(t, b.s, api.ErrDiskOff)
	if !bytes.Equal(b.whole(), before) {
		t.Errorf("with the power off something has changed")
	}
	checkRead(t, again(t, before, 0, 20).s, 20, full('A'), api.OK)
}

func TestR5WhatIsNoCommitWritesNothing(t *testing.T) {
	b := made(t)
	b.commit(20, 'A')
	before := b.pending()
	checkAnswer(t, "Fuse(0)", b.d.Fuse(0), api.OK)
	for range 3 {
		openStore(t, b.j)
		x := b.begin()
		for at := 20; at < 40; at++ {
			b.write(x, at, 'B', at, 'C')
			checkRead(t, x, at, full('C'), api.OK)
		}
		checkRead(t, b.s, 20, full('A'), api.OK)
		checkMark(t, x, 0, api.OK)
		checkBack(t, x, 0, api.OK)
		checkOwns(t, b.s, x, api.OK)
		checkAnswer(t, "Commit() of too many", x.Commit(), api.ErrJournalLarge)
		checkAnswer(t, "Abort()", b.begin().Abort(), api.OK)
	}
	if !b.d.On() || !slices.Equal(b.pending(), before) {
		t.Errorf("something was written or flushed: on %v, pending %v, then %v", b.d.On(), before, b.pending())
	}
	x := b.begin()
	b.write(x, 20, 'B')
	checkAnswer(t, "Commit() with the fuse at 0", x.Commit(), api.ErrDiskOff)
	checkRefused(t, x, api.ErrDiskOff)
}

func TestR5StoresInTurns(t *testing.T) {
	one, two := made(t), made(t)
	for n := range 20 {
		x, y := one.begin(), two.begin()
		one.write(x, 20+n%3, n, 30, n)
		two.write(y, 20+n%3, 100+n, 31, n)
		checkRead(t, x, 31, full(0), api.OK)
		checkRead(t, y, 30, full(0), api.OK)
		checkMark(t, x, 0, api.OK)
		checkBack(t, y, 0, api.ErrTxnMark)
		checkAnswer(t, "Commit()", x.Commit(), api.OK)
		checkOwns(t, two.s, y, api.OK)
		if n%2 == 0 {
			checkAnswer(t, "Commit()", y.Commit(), api.OK)
		} else {
			checkAnswer(t, "Abort()", y.Abort(), api.OK)
		}
		one.checkSeq(n + 1)
		two.checkSeq(n/2 + 1)
		checkRead(t, one.s, 20+n%3, full(byte(n)), api.OK)
	}
	one.darken()
	two.commit(20, 'A')
	checkRead(t, two.s, 20, full('A'), api.OK)
}

// Two stores over one journal have their committed bytes in common, and nothing else.
func TestR5TwoStoresOverOneJournalInTurns(t *testing.T) {
	b := made(t)
	other := &bench{t: t, d: b.d, c: b.c, j: b.j, s: openStore(t, b.j)}
	for n := range 12 {
		x, y := b.begin(), other.begin()
		b.write(x, 20, n, 21, n)
		other.write(y, 20, 100+n, 22, n)
		checkRead(t, x, 20, full(byte(n)), api.OK)
		checkRead(t, y, 20, full(byte(100+n)), api.OK)
		checkAnswer(t, "Commit()", x.Commit(), api.OK)
		checkRead(t, other.s, 20, full(byte(n)), api.OK)
		checkRead(t, y, 20, full(byte(100+n)), api.OK)
		checkRead(t, y, 21, full(byte(n)), api.OK)
		checkOwns(t, other.s, y, api.OK)
		checkAnswer(t, "Commit()", y.Commit(), api.OK)
		checkRead(t, b.s, 20, full(byte(100+n)), api.OK)
		b.checkSeq(2*n + 2)
	}
}

func TestR5TwoStoresOverTwoJournalsOfOneDisk(t *testing.T) {
	one := laid(t, 60, 0, 20)
	two := laidOn(t, one.d, 40, 20)
	for n := range 30 {
		x, y := one.begin(), two.begin()
		one.write(x, 20, n, 22+n%8, n)
		two.write(y, 30, n, 32+n%8, n)
		checkWrite(t, x, 19, full('Z'), api.ErrJournalAt)
		checkWrite(t, y, 40, full('Z'), api.ErrJournalAt)
		checkAnswer(t, "Commit()", y.Commit(), api.OK)
		checkOwns(t, one.s, x, api.OK)
		checkAnswer(t, "Commit()", x.Commit(), api.OK)
		checkRead(t, one.s, 20, full(byte(n)), api.OK)
		checkRead(t, two.s, 30, full(byte(n)), api.OK)
		one.checkSeq(n + 1)
		two.checkSeq(n + 1)
	}
}

// spoil writes over all of a list's memory, the spare room too.
func spoil(data []byte) {
	data = data[:cap(data)]
	for i := range data {
		data[i] ^= 0xff
	}
}

func TestR4WhatIsHandedInIsNeitherChangedNorKept(t *testing.T) {
	b := made(t)
	for n := range 12 {
		x := b.begin()
		var handed [][]byte
		write := func(at int, seed int) {
			data := noise(700, uint32(seed))[:512]
			handed = append(handed, data)
			checkWrite(t, x, at, data, api.OK)
			if !bytes.Equal(data[:700], noise(700, uint32(seed))) {
				t.Fatalf("Write(%d) has changed what it was handed", at)
			}
			spoil(data)
			checkRead(t, x, at, noise(512, uint32(seed)), api.OK)
		}
		write(20, n)
		write(21, 100+n)
		checkMark(t, x, 0, api.OK)
		write(20, 200+n)
		checkBack(t, x, 0, api.OK)
		checkRead(t, x, 20, noise(512, uint32(n)), api.OK)
		checkAnswer(t, "Commit()", x.Commit(), api.OK)
		for _, data := range handed {
			spoil(data)
			spoil(data[:1])
		}
		checkRead(t, b.s, 20, noise(512, uint32(n)), api.OK)
		checkRead(t, b.s, 21, noise(512, uint32(100+n)), api.OK)
	}
	found := again(t, b.whole(), 0, 20)
	checkRead(t, found.s, 20, noise(512, 11), api.OK)
}

func TestR4WhatIsHandedOutIsNewMemory(t *testing.T) {
	b := made(t)
	b.commit(20, 'A')
	x := b.begin()
	b.write(x, 21, 'B', 22, 'X')
	checkMark(t, x, 0, api.OK)
	b.write(x, 22, 'C')
	for _, want := range []struct {
		r    reader
		at   int
		name byte
	}{{b.s, 20, 'A'}, {b.s, 23, 0}, {x, 20, 'A'}, {x, 21, 'B'}, {x, 22, 'C'}, {x, 23, 0}} {
		one, _ := want.r.Read(want.at)
		two, _ := want.r.Read(want.at)
		spoil(one)
		if !bytes.Equal(two, full(want.name)) {
			t.Errorf("Read(%d) of a %T: what was handed out before is changed", want.at, want.r)
		}
		_ = append(two, 1)
		spoil(two)
		checkRead(t, want.r, want.at, full(want.name), api.OK)
	}
	spoilt, _ := x.Read(22)
	spoil(spoilt)
	checkBack(t, x, 0, api.OK)
	checkRead(t, x, 22, full('X'), api.OK)
	checkAnswer(t, "Commit()", x.Commit(), api.OK)
	checkBlocks(t, b.s, "ABX\x00")
}
