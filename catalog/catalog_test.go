package catalog_test

import (
	"bytes"
	"math"
	"slices"
	"strings"
	"testing"

	"cistern/api"
	"cistern/cache"
	"cistern/catalog"
	"cistern/disk"
	"cistern/journal"
	"cistern/txn"
)

// The journal of these tests has the blocks below home. The table lies from there on, and a few blocks behind it.
const (
	home  = 60
	spare = 20
)

// total is how many blocks the disks of these tests have: there is room for two tables.
func total() int { return home + 2*catalog.Blocks() + spare }

// full gives a block that is one byte all through.
func full(name byte) []byte { return bytes.Repeat([]byte{name}, 512) }

// noise gives bytes that look like chance and are the same in each run.
func noise(size int, seed uint32) []byte {
	out := make([]byte, size)
	for i := range out {
		seed = seed*1664525 + 1013904223
		out[i] = byte(seed >> 24)
	}
	return out
}

// bench is a store with a catalog, what it stands on, and the open transaction.
type bench struct {
	t *testing.T
	d *disk.Disk
	j *journal.Journal
	s *txn.Store
	k *catalog.Catalog
	x *txn.Txn
}

// bare gives a store without a table, with a transaction.
func bare(t *testing.T) *bench {
	t.Helper()
	d, e := disk.New(total())
	if e != api.OK {
		t.Fatalf("disk.New = %d", e)
	}
	c, e := cache.New(d, 16)
	if e != api.OK {
		t.Fatalf("cache.New = %d", e)
	}
	if e := journal.Format(c, 0, home); e != api.OK {
		t.Fatalf("journal.Format = %d", e)
	}
	return found(t, d)
}

// found gives the store that is found on a disk, with a transaction.
func found(t *testing.T, d *disk.Disk) *bench {
	t.Helper()
	b := &bench{t: t, d: d}
	c, e := cache.New(d, 16)
	if e != api.OK {
		t.Fatalf("cache.New = %d", e)
	}
	if b.j, e = journal.Open(c, 0, home); e != api.OK {
		t.Fatalf("journal.Open = %d", e)
	}
	if b.s, e = txn.Open(b.j); e != api.OK {
		t.Fatalf("txn.Open = %d", e)
	}
	b.begin()
	return b
}

// made gives a store with the catalog of an empty table, with a transaction.
func made(t *testing.T) *bench {
	t.Helper()
	b := bare(t)
	b.format(home)
	b.commit()
	b.k = b.open(home)
	return b
}

// forged gives a store with the catalog of a table that holds what is handed in.
func forged(t *testing.T, next int, entries ...api.Entry) *bench {
	t.Helper()
	b := bare(t)
	if e := catalog.Lay(b.x, home, next, entries...); e != api.OK {
		t.Fatalf("Lay = %d", e)
	}
	b.commit()
	b.k = b.open(home)
	return b
}

// again gives the store and the catalog that are found on a disk that holds what this one's is seen to hold.
func (b *bench) again() *bench {
	b.t.Helper()
	d, e := disk.Open(b.image())
	if e != api.OK {
		b.t.Fatalf("disk.Open = %d", e)
	}
	f := found(b.t, d)
	f.k = f.open(home)
	return f
}

// image gives all that the disk is seen to hold.
func (b *bench) image() []byte {
	b.t.Helper()
	pending, e := b.d.Pending()
	if e != api.OK {
		b.t.Fatalf("Pending() = %d", e)
	}
	image, e := b.d.Crash(firstPlaces(len(pending)))
	if e != api.OK {
		b.t.Fatalf("Crash = %d", e)
	}
	return image
}

func firstPlaces(n int) []int {
	places := make([]int, n)
	for i := range places {
		places[i] = i
	}
	return places
}

func (b *bench) begin() {
	b.t.Helper()
	x, e := b.s.Begin()
	if e != api.OK {
		b.t.Fatalf("Begin() = %d", e)
	}
	b.x = x
}

// commit commits, and begins the next transaction.
func (b *bench) commit() {
	b.t.Helper()
	if e := b.x.Commit(); e != api.OK {
		b.t.Fatalf("Commit() = %d", e)
	}
	b.begin()
}

// abort gives the transaction up, and begins the next one.
func (b *bench) abort() {
	b.t.Helper()
	if e := b.x.Abort(); e != api.OK {
		b.t.Fatalf("Abort() = %d", e)
	}
	b.begin()
}

func (b *bench) mark() int {
	b.t.Helper()
	m, e := b.x.Mark()
	if e != api.OK {
		b.t.Fatalf("Mark() = %d", e)
	}
	return m
}

func (b *bench) back(m int) {
	b.t.Helper()
	if e := b.x.Back(m); e != api.OK {
		b.t.Fatalf("Back(%d) = %d", m, e)
	}
}

// darken turns the power off.
func (b *bench) darken() {
	b.t.Helper()
	b.d.Fuse(0)
	if e := b.d.Flush(); e != api.ErrDiskOff {
		b.t.Fatalf("Flush() with a fuse of 0 = %d", e)
	}
}

func (b *bench) seq() int {
	b.t.Helper()
	n, e := b.j.Seq()
	if e != api.OK {
		b.t.Fatalf("Seq() = %d", e)
	}
	return n
}

// checkUnwritten holds that the transaction has no writes, by its Commit; it begins the next one.
func (b *bench) checkUnwritten(what string) {
	b.t.Helper()
	before := b.seq()
	b.commit()
	if after := b.seq(); after != before {
		b.t.Errorf("%s has written: the journal has %d transactions; want %d", what, after, before)
	}
}

func (b *bench) write(at int, data []byte) {
	b.t.Helper()
	if e := b.x.Write(at, data); e != api.OK {
		b.t.Fatalf("Write(%d) = %d", at, e)
	}
}

// seen gives the bytes of all blocks that the transaction sees, but the journal's own.
func (b *bench) seen() []byte {
	b.t.Helper()
	var all []byte
	for at := home; at < total(); at++ {
		block, e := b.x.Read(at)
		if e != api.OK {
			b.t.Fatalf("Read(%d) = %d", at, e)
		}
		all = append(all, block...)
	}
	return all
}

func (b *bench) format(from int) {
	b.t.Helper()
	if e := catalog.Format(b.x, from); e != api.OK {
		b.t.Fatalf("Format(t, %d) = %d", from, e)
	}
}

func (b *bench) open(from int) *catalog.Catalog {
	b.t.Helper()
	k, e := catalog.Open(b.s, from)
	if k == nil || e != api.OK {
		b.t.Fatalf("Open(s, %d) = a catalog: %v, %d", from, k != nil, e)
	}
	return k
}

func checkNoOpen(t *testing.T, s *txn.Store, from int, want api.Errno) {
	t.Helper()
	if k, e := catalog.Open(s, from); k != nil || e != want {
		t.Errorf("Open(s, %d) = a catalog: %v, %d; want none, %d", from, k != nil, e, want)
	}
}

// take takes so many numbers.
func (b *bench) take(count int) {
	b.t.Helper()
	for range count {
		if n, e := b.k.Take(b.x); e != api.OK {
			b.t.Fatalf("Take(t) = %d, %d", n, e)
		}
	}
}

func (b *bench) checkTake(want int, wantErr api.Errno) {
	b.t.Helper()
	if n, e := b.k.Take(b.x); n != want || e != wantErr {
		b.t.Errorf("Take(t) = %d, %d; want %d, %d", n, e, want, wantErr)
	}
}

func (b *bench) checkNext(want int) {
	b.t.Helper()
	if n, e := b.k.Next(b.x); n != want || e != api.OK {
		b.t.Errorf("Next(t) = %d, %d; want %d", n, e, want)
	}
}

func (b *bench) checkPut(entry api.Entry, want api.Errno) {
	b.t.Helper()
	if e := b.k.Put(b.x, entry); e != want {
		b.t.Errorf("Put(t, %v) = %d; want %d", entry, e, want)
	}
}

func (b *bench) checkRemove(id int, want api.Errno) {
	b.t.Helper()
	if e := b.k.Remove(b.x, id); e != want {
		b.t.Errorf("Remove(t, %d) = %d; want %d", id, e, want)
	}
}

func (b *bench) checkFind(name string, want api.Entry) {
	b.t.Helper()
	if got, e := b.k.Find(b.x, name); got != want || e != api.OK {
		b.t.Errorf("Find(t, %q) = %v, %d; want %v", name, got, e, want)
	}
}

func (b *bench) checkNoFind(name string) {
	b.t.Helper()
	if got, e := b.k.Find(b.x, name); got != (api.Entry{}) || e != api.ErrCatalogNone {
		b.t.Errorf("Find(t, %q) = %v, %d; want ErrCatalogNone", name, got, e)
	}
}

// checkList holds that the table has just these entries, in this order.
func (b *bench) checkList(want ...api.Entry) {
	b.t.Helper()
	if got, e := b.k.List(b.x); !slices.Equal(got, want) || e != api.OK {
		b.t.Errorf("List(t) = %v, %d; want %v", got, e, want)
	}
}

// names gives the names of the entries, each with a space behind it.
func (b *bench) names() string {
	b.t.Helper()
	entries, e := b.k.List(b.x)
	if e != api.OK {
		b.t.Fatalf("List(t) = %d", e)
	}
	out := ""
	for _, entry := range entries {
		out += entry.Name + " "
	}
	return out
}

// checkRefused asks every method, with arguments that are good, bad and several times bad.
func checkRefused(t *testing.T, k *catalog.Catalog, x *txn.Txn, want api.Errno) {
	t.Helper()
	if l, e := k.List(x); len(l) != 0 || e != want {
		t.Errorf("List(t) = %v, %d; want none, %d", l, e, want)
	}
	for _, name := range []string{"", "a", "b", "A", strings.Repeat("a", 32)} {
		if got, e := k.Find(x, name); got != (api.Entry{}) || e != want {
			t.Errorf("Find(t, %q) = %v, %d; want none, %d", name, got, e, want)
		}
	}
	for _, entry := range []api.Entry{{}, {Name: "a", ID: 1, Size: 1}, {Name: "a", ID: 1}, {Name: "b", ID: 900, Size: 1}, {Name: "A", ID: -1, Size: -1}} {
		if e := k.Put(x, entry); e != want {
			t.Errorf("Put(t, %v) = %d; want %d", entry, e, want)
		}
	}
	for _, id := range []int{math.MinInt, -1, 0, 1, 2, math.MaxInt} {
		if e := k.Remove(x, id); e != want {
			t.Errorf("Remove(t, %d) = %d; want %d", id, e, want)
		}
	}
	if n, e := k.Next(x); n != 0 || e != want {
		t.Errorf("Next(t) = %d, %d; want 0, %d", n, e, want)
	}
	if n, e := k.Take(x); n != 0 || e != want {
		t.Errorf("Take(t) = %d, %d; want 0, %d", n, e, want)
	}
}

func TestP8ExamplesInTheirOrder(t *testing.T) {
	b := made(t)
	b.checkNext(1)
	b.checkTake(1, api.OK)
	b.checkTake(2, api.OK)
	b.checkNext(3)
	b.checkPut(api.Entry{Name: "b", ID: 2, Size: 5}, api.OK)
	b.checkPut(api.Entry{Name: "a", ID: 1, Size: 9}, api.OK)
	b.checkList(api.Entry{Name: "a", ID: 1, Size: 9}, api.Entry{Name: "b", ID: 2, Size: 5})
	b.checkPut(api.Entry{Name: "c", ID: 3, Size: 1}, api.ErrCatalogID)
	b.checkPut(api.Entry{Name: "b", ID: 1, Size: 9}, api.ErrCatalogTaken)
	b.checkPut(api.Entry{Name: "b", ID: 2, Size: 6}, api.OK)
	b.checkFind("b", api.Entry{Name: "b", ID: 2, Size: 6})
	b.checkPut(api.Entry{Name: "A", ID: 9}, api.ErrCatalogName)
	b.checkPut(api.Entry{Name: "c", ID: 9}, api.ErrCatalogEntry)
	b.checkRemove(2, api.OK)
	b.checkRemove(2, api.ErrCatalogNone)
	b.checkNoFind("b")
	b.checkPut(api.Entry{Name: "c", ID: 2, Size: 1}, api.OK)
	over := b.x
	b.commit()
	if got, e := b.k.Find(over, "a"); got != (api.Entry{}) || e != api.ErrTxnOver {
		t.Errorf("Find with a transaction that is over = %v, %d", got, e)
	}
	checkNoOpen(t, b.s, home+catalog.Blocks(), api.ErrCatalogForm)
}

func TestP8_1Blocks(t *testing.T) {
	n := catalog.Blocks()
	for range 3 {
		if catalog.Blocks() != n || n < 1 || n > 32 {
			t.Errorf("Blocks() = %d, then %d", n, catalog.Blocks())
		}
	}
	// It writes all of them, and no other.
	b := bare(t)
	for at := home; at < total(); at++ {
		b.write(at, full(7))
	}
	b.format(home + 1)
	for at := home; at < total(); at++ {
		block, _ := b.x.Read(at)
		if isWritten := !bytes.Equal(block, full(7)); isWritten != (at > home && at <= home+n) {
			t.Errorf("Format(t, %d) has written block %d: %v", home+1, at, isWritten)
		}
	}
}

func TestP8_2FormatOverAnything(t *testing.T) {
	for seed := range uint32(6) {
		b := bare(t)
		for at := home; at < home+catalog.Blocks()+2; at++ {
			b.write(at, noise(512, seed*1000+uint32(at)))
		}
		if seed%2 == 0 {
			b.commit()
		}
		b.format(home)
		b.commit()
		b.k = b.open(home)
		b.checkList()
		b.checkNext(1)
		b.take(3)
		b.checkPut(api.Entry{Name: "a", ID: 3, Size: 7, Origin: 2, Kind: api.KindSnap, Partial: true, Root: 9}, api.OK)
		if seed%3 == 0 {
			b.commit()
		}
		// Over an old table, also within the transaction that it was changed in.
		b.format(home)
		b.checkList()
		b.checkNext(1)
		b.checkNoFind("a")
		b.checkTake(1, api.OK)
		b.checkPut(api.Entry{Name: "z", ID: 1, Size: 1}, api.OK)
		b.commit()
		b = b.again()
		b.checkList(api.Entry{Name: "z", ID: 1, Size: 1})
		b.checkNext(2)
	}
}

// A table has nothing to do with what stands in other blocks, and a Format that is gone back over was none.
func TestP8_2FormatAndBack(t *testing.T) {
	b := made(t)
	b.take(1)
	b.checkPut(api.Entry{Name: "a", ID: 1, Size: 1}, api.OK)
	m := b.mark()
	b.format(home)
	b.checkList()
	b.back(m)
	b.checkList(api.Entry{Name: "a", ID: 1, Size: 1})
	b.format(home)
	b.abort()
	b.checkList()
	b.checkNext(1)
}

func TestP8_2FormatWhereTheStoreHasNoBlocks(t *testing.T) {
	n := catalog.Blocks()
	b := bare(t)
	for _, from := range []int{math.MinInt, -n - 1, -n, -1, 0, 1, home - n, home - 1, total() - n + 1, total() - 1, total(), total() + 1, math.MaxInt - 1, math.MaxInt} {
		before := b.seen()
		if e := catalog.Format(b.x, from); e != api.ErrJournalAt {
			t.Errorf("Format(t, %d) = %d; want ErrJournalAt", from, e)
		}
		if !bytes.Equal(b.seen(), before) {
			t.Errorf("Format(t, %d), which is refused, has changed something", from)
		}
		b.checkUnwritten("a refused Format")
		checkNoOpen(t, b.s, from, api.ErrJournalAt)
	}
	// The first and the last blocks that can be.
	for _, from := range []int{home, total() - n} {
		b.format(from)
		b.commit()
		b.open(from)
	}
}

func TestP8_2WhichTransactionsFormatTakes(t *testing.T) {
	b := bare(t)
	committed := b.x
	b.commit()
	aborted := b.x
	b.abort()
	check := func(x *txn.Txn, want api.Errno) {
		t.Helper()
		for _, from := range []int{-1, 0, home, total()} {
			if e := catalog.Format(x, from); e != want {
				t.Errorf("Format(t, %d) = %d; want %d", from, e, want)
			}
		}
	}
	check(nil, api.ErrNil)
	check(committed, api.ErrTxnOver)
	check(aborted, api.ErrTxnOver)
	b.checkUnwritten("a refused Format")
	b.darken()
	check(nil, api.ErrNil)
	check(b.x, api.ErrDiskOff)
	check(committed, api.ErrDiskOff)
}

func TestP8_3Open(t *testing.T) {
	b := bare(t)
	checkNoOpen(t, b.s, home, api.ErrCatalogForm)
	b.format(home)
	// What is committed is asked, not what the open transaction has.
	checkNoOpen(t, b.s, home, api.ErrCatalogForm)
	b.commit()
	b.k = b.open(home)
	b.checkList()
	b.take(5)
	b.checkPut(api.Entry{Name: "a", ID: 5, Size: 1}, api.OK)
	b.k = b.open(home)
	b.checkNext(6)
	b.write(home, full(0))
	b.open(home)
	b.abort()
	b.checkNext(1)
	checkNoOpen(t, nil, home, api.ErrNil)
	checkNoOpen(t, nil, -1, api.ErrNil)
	for _, from := range []int{home - 1, home + 1, home + catalog.Blocks()} {
		want := api.ErrCatalogForm
		if from < home {
			want = api.ErrJournalAt
		}
		checkNoOpen(t, b.s, from, want)
	}
	b.darken()
	for _, from := range []int{-1, 0, home, home + 1, total()} {
		checkNoOpen(t, b.s, from, api.ErrDiskOff)
		checkNoOpen(t, nil, from, api.ErrNil)
	}
}

// Open writes nothing, and neither does what tells alone.
func TestR5WhatTellsWritesNothing(t *testing.T) {
	b := made(t)
	b.take(1)
	b.checkPut(api.Entry{Name: "a", ID: 1, Size: 1}, api.OK)
	b.commit()
	before, pending := b.image(), 0
	if list, e := b.d.Pending(); e == api.OK {
		pending = len(list)
	}
	b.d.Fuse(0)
	b.open(home)
	b.checkNext(2)
	b.checkFind("a", api.Entry{Name: "a", ID: 1, Size: 1})
	b.checkNoFind("b")
	b.checkList(api.Entry{Name: "a", ID: 1, Size: 1})
	if list, _ := b.d.Pending(); !b.d.On() || len(list) != pending || !bytes.Equal(b.image(), before) {
		t.Errorf("what only tells has written or flushed")
	}
	b.checkUnwritten("what only tells")
}

// A beginning of a name comes ahead of it; and the order is that of the bytes.
func TestP8_4ListByName(t *testing.T) {
	names := []string{"b", "ab", "~", "a", "abc", "a~", "a-", "a.", "a_", "a@", "a0", "a9", "aa", "az", "~a", "z", "ab.c", "ab-c", strings.Repeat("a", 31), strings.Repeat("a", 30)}
	b := made(t)
	b.take(len(names))
	for i, name := range names {
		b.checkPut(api.Entry{Name: name, ID: len(names) - i, Size: 1}, api.OK)
	}
	want := slices.Clone(names)
	slices.SortFunc(want, func(a, b string) int { return bytes.Compare([]byte(a), []byte(b)) })
	if got := b.names(); got != strings.Join(want, " ")+" " {
		t.Errorf("List(t) = %s; want %s", got, want)
	}
	b.commit()
	b = b.again()
	if got := b.names(); got != strings.Join(want, " ")+" " {
		t.Errorf("List(t) behind it = %s; want %s", got, want)
	}
	for i, name := range names {
		b.checkFind(name, api.Entry{Name: name, ID: len(names) - i, Size: 1})
	}
}

func TestP8_5FindOfAnyString(t *testing.T) {
	b := made(t)
	for _, name := range []string{"", "a"} {
		b.checkNoFind(name)
	}
	b.take(2)
	b.checkPut(api.Entry{Name: "a", ID: 2, Size: 1}, api.OK)
	for _, name := range []string{"", "A", "b", "aa", "a\x00", "\x00", "\x00a", " a", "\xff", "ä", strings.Repeat("a", 31), strings.Repeat("a", 32), strings.Repeat("a", 1000), string(noise(512, 4))} {
		b.checkNoFind(name)
	}
	b.checkFind("a", api.Entry{Name: "a", ID: 2, Size: 1})
	b.checkRemove(2, api.OK)
	b.checkNoFind("a")
	b.checkNoFind("")
	b.abort()
	b.checkNoFind("a")
}

func TestP8_6WhichNamesMayBe(t *testing.T) {
	const first, behind = "abcdefghijklmnopqrstuvwxyz~", "abcdefghijklmnopqrstuvwxyz0123456789.-_@~"
	b := made(t)
	b.take(1)
	check := func(name string, may bool) {
		t.Helper()
		if !may {
			b.checkPut(api.Entry{Name: name, ID: 1, Size: 1}, api.ErrCatalogName)
			b.checkNoFind(name)
			return
		}
		b.checkPut(api.Entry{Name: name, ID: 1, Size: 1}, api.OK)
		b.checkFind(name, api.Entry{Name: name, ID: 1, Size: 1})
		b.checkList(api.Entry{Name: name, ID: 1, Size: 1})
	}
	for c := range 256 {
		sign := string([]byte{byte(c)})
		check(sign, strings.Contains(first, sign))
		check(sign+"a", strings.Contains(first, sign))
		check("a"+sign, strings.Contains(behind, sign))
		check("~"+strings.Repeat("a", 14)+sign+strings.Repeat("b", 15), strings.Contains(behind, sign))
		check(strings.Repeat("a", 30)+sign, strings.Contains(behind, sign))
	}
	for _, n := range []int{0, 1, 2, 30, 31, 32, 33, 255, 256, 257, 512} {
		check(strings.Repeat("n", n), n >= 1 && n <= 31)
	}
	check("ä", false)
	check("aä", false)
}

func TestP8_6WhichEntriesMayBe(t *testing.T) {
	b := forged(t, 1<<30+1)
	good := api.Entry{Name: "a", ID: 7, Size: 5, Origin: 3, Root: 11}
	check := func(n int, least int, most int, set func(e *api.Entry)) {
		t.Helper()
		entry := good
		set(&entry)
		if n < least || n > most {
			b.checkPut(entry, api.ErrCatalogEntry)
			b.checkNoFind("a")
			entry.Name = "A"
			b.checkPut(entry, api.ErrCatalogName)
			return
		}
		b.checkPut(entry, api.OK)
		b.checkFind("a", entry)
		b.checkList(entry)
		b.checkRemove(entry.ID, api.OK)
	}
	edges := []int{math.MinInt, -1 << 40, -1<<30 - 1, -256, -2, -1, 0, 1, 2, 255, 256, 257, 65535, 65536, 262143, 262144, 262145, 1<<24 - 1, 1 << 24,
		1<<30 - 1, 1 << 30, 1<<30 + 1, 1 << 31, 1<<32 - 1, 1 << 32, 1<<32 + 1, 1 << 40, math.MaxInt}
	for _, n := range edges {
		check(n, 1, 1<<30, func(e *api.Entry) { e.ID = n })
		check(n, 1, 262144, func(e *api.Entry) { e.Size = n })
		check(n, 0, 1<<30, func(e *api.Entry) { e.Origin = n })
		check(n, 0, 1, func(e *api.Entry) { e.Kind = n })
		check(n, 0, 262144, func(e *api.Entry) { e.Root = n })
		check(0, 0, 0, func(e *api.Entry) { e.Partial = n%2 == 0 })
	}
	b.checkList()
}

// Each of the fields is found as it was put, with all others.
func TestP8_6AllFieldsTogether(t *testing.T) {
	b := forged(t, 1<<30+1)
	var want []api.Entry
	for i, name := range []string{"a", "b", "c", strings.Repeat("d", 31)} {
		for _, kind := range []int{api.KindVolume, api.KindSnap} {
			entry := api.Entry{Name: name, ID: 1 << 30 >> i, Size: 262144 >> i, Origin: 1<<30 - i, Kind: kind, Partial: i%2 == 0, Root: 262144 - i}
			b.checkPut(entry, api.OK)
			b.checkFind(name, entry)
			if kind == api.KindSnap {
				want = append(want, entry)
			}
		}
	}
	b.checkList(want...)
	b.commit()
	b.again().checkList(want...)
}

func TestP8_6WhichNumbersWereTaken(t *testing.T) {
	b := made(t)
	b.checkPut(api.Entry{Name: "a", ID: 1, Size: 1}, api.ErrCatalogID)
	b.take(1)
	b.checkPut(api.Entry{Name: "a", ID: 1, Size: 1}, api.OK)
	b.checkPut(api.Entry{Name: "b", ID: 2, Size: 1}, api.ErrCatalogID)
	b.take(99)
	b.checkPut(api.Entry{Name: "b", ID: 2, Size: 1}, api.OK)
	b.checkPut(api.Entry{Name: "c", ID: 100, Size: 1}, api.OK)
	for _, id := range []int{101, 102, 1 << 20, 1 << 30} {
		b.checkPut(api.Entry{Name: "d", ID: id, Size: 1}, api.ErrCatalogID)
	}
	b.commit()
	b.checkPut(api.Entry{Name: "d", ID: 101, Size: 1}, api.ErrCatalogID)
	b.checkPut(api.Entry{Name: "d", ID: 99, Size: 1}, api.OK)
	// One that was removed was taken still.
	b.checkRemove(99, api.OK)
	b.checkPut(api.Entry{Name: "e", ID: 99, Size: 1}, api.OK)
	if got := b.names(); got != "a b c e " {
		t.Errorf("List(t) = %s", got)
	}
}

func TestP8_6NamesThatOthersHave(t *testing.T) {
	b := made(t)
	b.take(3)
	a, c := api.Entry{Name: "a", ID: 1, Size: 1}, api.Entry{Name: "c", ID: 2, Size: 2}
	b.checkPut(a, api.OK)
	b.checkPut(c, api.OK)
	b.checkPut(api.Entry{Name: "a", ID: 2, Size: 1}, api.ErrCatalogTaken)
	b.checkPut(api.Entry{Name: "c", ID: 1, Size: 1}, api.ErrCatalogTaken)
	b.checkPut(api.Entry{Name: "a", ID: 3, Size: 1}, api.ErrCatalogTaken)
	b.checkPut(api.Entry{Name: "c", ID: 3, Size: 1}, api.ErrCatalogTaken)
	b.checkList(a, c)
	// Its own name an entry may keep; and a name that was given up is free at once.
	b.checkPut(a, api.OK)
	b.checkPut(api.Entry{Name: "b", ID: 1, Size: 1}, api.OK)
	b.checkNoFind("a")
	b.checkPut(api.Entry{Name: "a", ID: 2, Size: 2}, api.OK)
	b.checkPut(api.Entry{Name: "c", ID: 1, Size: 1}, api.OK)
	b.checkList(api.Entry{Name: "a", ID: 2, Size: 2}, api.Entry{Name: "c", ID: 1, Size: 1})
	b.checkRemove(2, api.OK)
	b.checkPut(api.Entry{Name: "a", ID: 3, Size: 3}, api.OK)
	b.checkList(api.Entry{Name: "a", ID: 3, Size: 3}, api.Entry{Name: "c", ID: 1, Size: 1})
}

// volume gives an entry of that ID, with a name that no other has.
func volume(id int) api.Entry {
	return api.Entry{Name: "v" + string(rune('a'+id/26)) + string(rune('a'+id%26)), ID: id, Size: id, Origin: id / 2, Kind: id % 2, Partial: id%3 == 0, Root: 3 * id}
}

// volumes gives those of the IDs from first to last.
func volumes(first int, last int) []api.Entry {
	var entries []api.Entry
	for id := first; id <= last; id++ {
		entries = append(entries, volume(id))
	}
	return entries
}

func TestP8_6AsManyAsMayBe(t *testing.T) {
	b := made(t)
	b.take(70)
	for id := 1; id <= 63; id++ {
		b.checkPut(volume(id), api.OK)
	}
	b.checkList(volumes(1, 63)...)
	b.checkPut(volume(64), api.OK)
	b.checkPut(volume(65), api.ErrCatalogFull)
	b.checkPut(volume(70), api.ErrCatalogFull)
	b.checkList(volumes(1, 64)...)
	b.commit()
	b = b.again()
	b.checkList(volumes(1, 64)...)
	b.checkPut(volume(65), api.ErrCatalogFull)
	b.checkUnwritten("a Put where there is no room")
	// Each is changed in its place.
	var want []api.Entry
	for id := 64; id >= 1; id-- {
		entry := volume(id)
		entry.Name, entry.Size = "w"+entry.Name, 1000+id
		b.checkPut(entry, api.OK)
		want = slices.Insert(want, 0, entry)
	}
	b.checkList(want...)
	b.checkPut(volume(65), api.ErrCatalogFull)
	// Where one goes another has room, whichever it is.
	for i, id := range []int{1, 64, 10, 11, 33} {
		b.checkRemove(id, api.OK)
		b.checkPut(volume(65+i), api.OK)
		b.checkPut(volume(70), api.ErrCatalogFull)
	}
	b.commit()
	b = b.again()
	for i := range 5 {
		b.checkFind(volume(65+i).Name, volume(65+i))
	}
	if l, e := b.k.List(b.x); len(l) != 64 || e != api.OK {
		t.Errorf("List(t) = %d entries, %d", len(l), e)
	}
}

func TestP8_7Remove(t *testing.T) {
	b := made(t)
	for _, id := range []int{math.MinInt, -1, 0, 1, 2, 1 << 30, 1<<30 + 1, math.MaxInt} {
		b.checkRemove(id, api.ErrCatalogNone)
	}
	b.checkUnwritten("Remove of what is not there")
	b.take(3)
	b.checkPut(volume(1), api.OK)
	b.checkPut(volume(2), api.OK)
	for _, id := range []int{math.MinInt, -1, 0, 3, 4, 1 << 30, 1<<30 + 1, math.MaxInt} {
		b.checkRemove(id, api.ErrCatalogNone)
	}
	b.checkList(volumes(1, 2)...)
	b.checkRemove(1, api.OK)
	b.checkRemove(1, api.ErrCatalogNone)
	b.checkNoFind(volume(1).Name)
	b.checkList(volume(2))
	b.commit()
	b.checkRemove(1, api.ErrCatalogNone)
	b.checkRemove(2, api.OK)
	b.checkList()
	b.checkNext(4)
	b.abort()
	b.checkList(volume(2))
	b.checkRemove(2, api.OK)
	b.commit()
	b = b.again()
	b.checkList()
	b.checkNext(4)
	b.checkRemove(2, api.ErrCatalogNone)
}

func TestP8_9Take(t *testing.T) {
	b := made(t)
	for n := 1; n <= 300; n++ {
		b.checkNext(n)
		b.checkTake(n, api.OK)
		b.checkNext(n + 1)
		switch n % 7 {
		case 3:
			b.commit()
		case 5:
			m := b.mark()
			b.checkTake(n+1, api.OK)
			b.checkTake(n+2, api.OK)
			b.back(m)
		}
	}
	b.checkList()
	b.commit()
	b.again().checkNext(301)
}

// A number that was given in a transaction that came to nothing is given again.
func TestP8_9TakeAndAbort(t *testing.T) {
	b := made(t)
	b.checkTake(1, api.OK)
	b.commit()
	for range 3 {
		b.checkTake(2, api.OK)
		b.checkTake(3, api.OK)
		b.abort()
	}
	b.checkNext(2)
}

func TestP8_9TheLastNumbers(t *testing.T) {
	for _, first := range []int{255, 65535, 1<<24 - 1, 1<<30 - 2} {
		b := forged(t, first)
		for n := first; n < first+2; n++ {
			b.checkNext(n)
			b.checkTake(n, api.OK)
		}
		b.commit()
		b.again().checkNext(first + 2)
	}
	b := forged(t, 1<<30)
	b.checkPut(api.Entry{Name: "a", ID: 1 << 30, Size: 1}, api.ErrCatalogID)
	b.checkTake(1<<30, api.OK)
	b.checkNext(1<<30 + 1)
	b.commit()
	b = b.again()
	for range 3 {
		b.checkTake(0, api.ErrCatalogIDs)
		b.checkNext(1<<30 + 1)
	}
	b.checkUnwritten("Take where no number is left")
	b.checkPut(api.Entry{Name: "a", ID: 1 << 30, Size: 1}, api.OK)
	b.checkPut(api.Entry{Name: "b", ID: 1<<30 + 1, Size: 1}, api.ErrCatalogEntry)
	b.checkList(api.Entry{Name: "a", ID: 1 << 30, Size: 1})
}
