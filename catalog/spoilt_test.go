package catalog_test

import (
	"bytes"
	"fmt"
	"slices"
	"testing"

	"cistern/api"
	"cistern/catalog"
)

// askAll calls every call, so that all of them end; what they change is taken back.
func (b *bench) askAll(k *catalog.Catalog) {
	b.t.Helper()
	m := b.mark()
	k.Next(b.x)
	k.List(b.x)
	for _, name := range []string{"", "a", volume(1).Name, string(noise(20, 3))} {
		k.Find(b.x, name)
	}
	for id := -1; id < 70; id += 18 {
		k.Take(b.x)
		k.Put(b.x, volume(max(id, 1)))
		k.Remove(b.x, id)
	}
	b.back(m)
}

// filled gives a store with a table of 64 volumes.
func filled(t *testing.T) *bench {
	t.Helper()
	b := made(t)
	b.take(70)
	for id := 1; id <= 64; id++ {
		b.checkPut(volume(id), api.OK)
	}
	b.commit()
	return b
}

// A table of which one block is gone is none: be it zeros, noise, another of its blocks, or one of an old table's.
func TestP8_3ATableOfWhichABlockIsGone(t *testing.T) {
	b := filled(t)
	n := catalog.Blocks()
	b.format(home + n)
	b.commit()
	for at := home; at < home+n; at++ {
		next, e := b.x.Read(home + (at-home+1)%n)
		if e != api.OK {
			t.Fatalf("Read = %d", e)
		}
		for name, bad := range map[string][]byte{"zeros": full(0), "ones": full(1), "bytes 255": full(255), "noise": noise(512, uint32(at)), "another block": next} {
			if n == 1 && name == "another block" {
				continue
			}
			good, _ := b.x.Read(at)
			b.write(at, bad)
			checkRefused(t, b.k, b.x, api.ErrCatalogForm)
			b.commit()
			checkNoOpen(t, b.s, home, api.ErrCatalogForm)
			checkRefused(t, b.k, b.x, api.ErrCatalogForm)
			b.checkUnwritten("a call over what is no table")
			b.open(home + n)
			b.write(at, good)
			b.commit()
		}
	}
	b.k = b.open(home)
	b.checkList(volumes(1, 64)...)
	b.checkNext(71)
}

// Where a table is laid over a part of another one, that is none any more.
func TestP8_3ATableOverAPartOfAnother(t *testing.T) {
	n := catalog.Blocks()
	for by := 1; by < n; by++ {
		b := filled(t)
		b.format(home + by)
		b.commit()
		checkNoOpen(t, b.s, home, api.ErrCatalogForm)
		checkRefused(t, b.k, b.x, api.ErrCatalogForm)
		b.k = b.open(home + by)
		b.checkList()
		b.checkNext(1)
	}
}

// Of blocks of any bytes Open ends, with a catalog or without one, and so do the calls.
func TestP8_3OpenOfAnyBytes(t *testing.T) {
	for seed := range uint32(40) {
		b := bare(t)
		for at := home; at < home+catalog.Blocks(); at++ {
			b.write(at, noise(512, seed*100+uint32(at)))
		}
		b.commit()
		checkNoOpen(t, b.s, home, api.ErrCatalogForm)
	}
	for c := range 256 {
		b := bare(t)
		for at := home; at < home+catalog.Blocks(); at++ {
			b.write(at, full(byte(c)))
		}
		b.commit()
		checkNoOpen(t, b.s, home, api.ErrCatalogForm)
	}
}

// Each byte of each block is spoilt in its turn: Open refuses the table or not, but no call panics, and none that is
// opened has entries that may not be.
func TestP8_3TablesOfWhichAByteIsSpoilt(t *testing.T) {
	b := filled(t)
	for at := home; at < home+catalog.Blocks(); at++ {
		good, _ := b.x.Read(at)
		for i := range good {
			for way, spoilt := range []byte{255, 0, good[i] ^ 1<<(i%8)} {
				bad := bytes.Clone(good)
				bad[i] = spoilt
				b.write(at, bad)
				b.askAll(b.k)
				if i%5 == way {
					b.commit()
					b.checkSpoiltOpen()
				}
			}
		}
		b.write(at, good)
		b.commit()
	}
	b.k = b.open(home)
	b.checkList(volumes(1, 64)...)
}

// checkSpoiltOpen holds that Open refuses a table that is spoilt, or gives one that may be.
func (b *bench) checkSpoiltOpen() {
	b.t.Helper()
	k, e := catalog.Open(b.s, home)
	if e == api.OK {
		b.askAll(k)
		b.checkEntries(k)
	} else if e != api.ErrCatalogForm {
		b.t.Errorf("Open of a table of which a byte is spoilt = %d", e)
	}
}

// checkEntries holds that all of a table's entries may be.
func (b *bench) checkEntries(k *catalog.Catalog) {
	b.t.Helper()
	next, _ := k.Next(b.x)
	m := model{next: next, entries: map[int]api.Entry{}}
	entries, e := k.List(b.x)
	if e != api.OK {
		b.t.Errorf("List(t) = %d", e)
	}
	for _, entry := range entries {
		if e := m.put(entry); e != api.OK {
			b.t.Errorf("a table has the entry %v, of which may be said %d", entry, e)
		}
	}
	if !slices.Equal(m.list(), entries) {
		b.t.Errorf("a table has entries of one ID or name: %v", entries)
	}
}

// Blocks that look like a table, and hold what no table does.
func TestP8_3TablesThatCannotBe(t *testing.T) {
	good := volumes(1, 3)
	with := func(change func(e *api.Entry)) []api.Entry {
		entries := slices.Clone(good)
		change(&entries[1])
		return entries
	}
	for i, c := range []struct {
		next    int
		entries []api.Entry
		want    api.Errno
	}{
		{4, good, api.OK},
		{1 << 30, good, api.OK},
		{1<<30 + 1, good, api.OK},
		{4, append(slices.Clone(good[:1]), append([]api.Entry{{}}, good[1:]...)...), api.OK},
		{1<<30 + 2, good, api.ErrCatalogForm},
		{1<<32 - 1, good, api.ErrCatalogForm},
		{0, nil, api.ErrCatalogForm},
		{3, good, api.ErrCatalogForm},
		{1, good, api.ErrCatalogForm},
		{4, with(func(e *api.Entry) { e.Name = "" }), api.ErrCatalogForm},
		{4, with(func(e *api.Entry) { e.Name = "A" }), api.ErrCatalogForm},
		{4, with(func(e *api.Entry) { e.Name = "a\x00" }), api.ErrCatalogForm},
		{4, with(func(e *api.Entry) { e.Name = good[0].Name }), api.ErrCatalogForm},
		{4, with(func(e *api.Entry) { e.ID = 1 }), api.ErrCatalogForm},
		{4, with(func(e *api.Entry) { e.ID, e.Name = 1, good[0].Name }), api.ErrCatalogForm},
		{4, with(func(e *api.Entry) { e.ID = 4 }), api.ErrCatalogForm},
		{4, with(func(e *api.Entry) { e.Size = 0 }), api.ErrCatalogForm},
		{4, with(func(e *api.Entry) { e.Size = 262145 }), api.ErrCatalogForm},
		{4, with(func(e *api.Entry) { e.Origin = 1<<30 + 1 }), api.ErrCatalogForm},
		{4, with(func(e *api.Entry) { e.Kind = 2 }), api.ErrCatalogForm},
		{4, with(func(e *api.Entry) { e.Root = 262145 }), api.ErrCatalogForm},
	} {
		t.Run(fmt.Sprint(i), func(t *testing.T) {
			b := bare(t)
			if e := catalog.Lay(b.x, home, c.next, c.entries...); e != api.OK {
				t.Fatalf("Lay = %d", e)
			}
			b.commit()
			if k, e := catalog.Open(b.s, home); e != c.want || (k == nil) == (e == api.OK) {
				t.Errorf("Open of next %d, %v = a catalog: %v, %d; want %d", c.next, c.entries, k != nil, e, c.want)
			}
		})
	}
}
