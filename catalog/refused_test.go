package catalog_test

import (
	"bytes"
	"slices"
	"strings"
	"testing"

	"cistern/api"
	"cistern/catalog"
	"cistern/journal"
	"cistern/txn"
)

func TestR3ANilCatalog(t *testing.T) {
	b := made(t)
	var none *catalog.Catalog
	over := b.x
	checkRefused(t, none, nil, api.ErrNil)
	checkRefused(t, none, b.x, api.ErrNil)
	b.abort()
	checkRefused(t, none, over, api.ErrNil)
	b.darken()
	checkRefused(t, none, b.x, api.ErrNil)
	checkRefused(t, none, nil, api.ErrNil)
}

func TestP8WhichTransactionsAreTaken(t *testing.T) {
	b, other := made(t), made(t)
	b.take(1)
	b.checkPut(api.Entry{Name: "a", ID: 1, Size: 1}, api.OK)
	committed := b.x
	b.commit()
	aborted := b.x
	b.abort()
	same, e := txn.Open(b.j)
	if e != api.OK {
		t.Fatalf("txn.Open = %d", e)
	}
	beside, e := same.Begin()
	if e != api.OK {
		t.Fatalf("Begin() = %d", e)
	}
	checkRefused(t, b.k, nil, api.ErrNil)
	checkRefused(t, b.k, other.x, api.ErrTxnForeign)
	checkRefused(t, b.k, beside, api.ErrTxnForeign)
	checkRefused(t, b.k, committed, api.ErrTxnOver)
	checkRefused(t, b.k, aborted, api.ErrTxnOver)
	if e := other.x.Abort(); e != api.OK {
		t.Fatalf("Abort() = %d", e)
	}
	checkRefused(t, b.k, other.x, api.ErrTxnForeign)
	b.checkList(api.Entry{Name: "a", ID: 1, Size: 1})
	b.checkUnwritten("a call with another transaction")
	b.darken()
	checkRefused(t, b.k, nil, api.ErrNil)
	for _, x := range []*txn.Txn{b.x, committed, aborted, other.x} {
		checkRefused(t, b.k, x, api.ErrDiskOff)
	}
}

// Of an entry that is wrong in several ways the first one is told.
func TestR2TheOrderOfErrorsOfPut(t *testing.T) {
	b := made(t)
	b.take(80)
	for id := 1; id <= 64; id++ {
		b.checkPut(volume(id), api.OK)
	}
	b.commit()
	before := b.seen()
	long := strings.Repeat("a", 32)
	taken := volume(3).Name
	for _, c := range []struct {
		entry api.Entry
		want  api.Errno
	}{
		{api.Entry{Name: long, ID: 99, Size: 0}, api.ErrCatalogName},
		{api.Entry{Name: "", ID: 99, Size: 1}, api.ErrCatalogName},
		{api.Entry{Name: "A", ID: 70, Size: 1}, api.ErrCatalogName},
		{api.Entry{Name: taken, ID: 0, Size: 1}, api.ErrCatalogEntry},
		{api.Entry{Name: taken, ID: 99, Size: 0}, api.ErrCatalogEntry},
		{api.Entry{Name: taken, ID: 99, Size: 1, Origin: -1}, api.ErrCatalogEntry},
		{api.Entry{Name: "new", ID: 70, Size: 1, Kind: 2}, api.ErrCatalogEntry},
		{api.Entry{Name: "new", ID: 1, Size: 1, Root: -1}, api.ErrCatalogEntry},
		{api.Entry{Name: taken, ID: 81, Size: 1}, api.ErrCatalogID},
		{api.Entry{Name: "new", ID: 99, Size: 1}, api.ErrCatalogID},
		{api.Entry{Name: taken, ID: 70, Size: 1}, api.ErrCatalogTaken},
		{api.Entry{Name: taken, ID: 4, Size: 1}, api.ErrCatalogTaken},
		{api.Entry{Name: "new", ID: 70, Size: 1}, api.ErrCatalogFull},
		{api.Entry{Name: "new", ID: 80, Size: 1}, api.ErrCatalogFull},
	} {
		b.checkPut(c.entry, c.want)
		if !bytes.Equal(b.seen(), before) {
			t.Fatalf("Put(t, %v), which is refused, has changed something", c.entry)
		}
		b.checkUnwritten("a refused Put")
	}
	b.checkRemove(65, api.ErrCatalogNone)
	b.checkNoFind("new")
	b.checkUnwritten("a refused call")
	b.checkList(volumes(1, 64)...)
	b.checkNext(81)
}

// Two stores that differ in refused calls alone are the same, to the last byte of their disks.
func TestR2RefusedCallsAmongWritesAndMarks(t *testing.T) {
	var images [2][]byte
	for i := range images {
		b := made(t)
		refuse := func() {
			if i == 0 {
				return
			}
			b.checkPut(api.Entry{Name: "A", ID: 1, Size: 1}, api.ErrCatalogName)
			b.checkPut(api.Entry{Name: "b", ID: 1, Size: 0}, api.ErrCatalogEntry)
			b.checkPut(api.Entry{Name: "b", ID: 50, Size: 1}, api.ErrCatalogID)
			b.checkRemove(50, api.ErrCatalogNone)
			b.checkNoFind("nobody")
			if e := catalog.Format(b.x, total()-1); e != api.ErrJournalAt {
				t.Errorf("Format(t, %d) = %d", total()-1, e)
			}
		}
		refuse()
		b.take(30)
		refuse()
		m := b.mark()
		b.checkPut(volume(1), api.OK)
		refuse()
		b.back(m)
		refuse()
		b.checkPut(volume(2), api.OK)
		if n := b.mark(); n != 1 {
			t.Errorf("Mark() = %d; want 1", n)
		}
		refuse()
		b.checkRemove(2, api.OK)
		b.back(1)
		b.commit()
		refuse()
		b.commit()
		images[i] = b.image()
	}
	if !bytes.Equal(images[0], images[1]) {
		t.Errorf("refused calls leave another disk")
	}
}

// Where the journal refuses a Commit, what was told in it was never told.
func TestP8_10ACommitThatIsRefused(t *testing.T) {
	b := made(t)
	b.take(1)
	b.checkPut(volume(1), api.OK)
	b.commit()
	most, e := journal.Most(home)
	if e != api.OK {
		t.Fatalf("Most(%d) = %d", home, e)
	}
	if most >= total()-home {
		t.Fatalf("a transaction may have %d blocks: all that there are", most)
	}
	b.take(1)
	b.checkPut(volume(2), api.OK)
	b.checkRemove(1, api.OK)
	n := catalog.Blocks()
	b.format(home + n)
	for at := home + 2*n; at < total(); at++ {
		b.write(at, full(1))
	}
	for at := home; at < home+n; at++ {
		data, _ := b.x.Read(at)
		b.write(at, data)
	}
	if e := b.x.Commit(); e != api.ErrJournalLarge {
		t.Fatalf("Commit() = %d; want ErrJournalLarge", e)
	}
	b.begin()
	b.checkNext(2)
	b.checkList(volume(1))
	checkNoOpen(t, b.s, home+n, api.ErrCatalogForm)
}

func TestR4WhatIsHandedOutIsNew(t *testing.T) {
	b := made(t)
	b.take(5)
	for id := 1; id <= 5; id++ {
		b.checkPut(volume(id), api.OK)
	}
	one, _ := b.k.List(b.x)
	two, _ := b.k.List(b.x)
	for i := range one[:cap(one)] {
		one[:cap(one)][i] = api.Entry{Name: "spoilt"}
	}
	if !slices.Equal(two, volumes(1, 5)) {
		t.Errorf("what was handed out before is changed: %v", two)
	}
	_ = append(two[:2], api.Entry{Name: "spoilt"})
	b.checkList(volumes(1, 5)...)
	b.commit()
	b.checkList(volumes(1, 5)...)
}
