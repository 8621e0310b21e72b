package catalog_test

import (
	"slices"
	"testing"

	"cistern/api"
	"cistern/catalog"
	"cistern/disk"
	"cistern/txn"
)

// choices gives which of n pending writes stay: all choices of a few, a fixed selection of many.
func choices(n int) [][]int {
	if n <= 4 {
		return allChoices(n)
	}
	all := firstPlaces(n)
	out := [][]int{nil, all}
	for i := range n {
		out = append(out, all[i:i+1], all[:i], slices.Delete(slices.Clone(all), i, i+1))
	}
	for _, chance := range noise(6, uint32(n)) {
		out = append(out, slices.DeleteFunc(slices.Clone(all), func(i int) bool { return (chance>>(i%8)^byte(i/8))&1 == 1 }))
	}
	return out
}

func allChoices(n int) [][]int {
	var out [][]int
	for mask := range 1 << n {
		out = append(out, slices.DeleteFunc(firstPlaces(n), func(i int) bool { return mask>>i&1 == 0 }))
	}
	return out
}

// deed is what is done in one transaction; none of them opens a catalog itself.
type deed func(k *catalog.Catalog, x *txn.Txn) api.Errno

// puts is a deed: it takes so many numbers, and puts a volume for each number of the list.
func puts(takes int, ids ...int) deed {
	return func(k *catalog.Catalog, x *txn.Txn) api.Errno {
		for range takes {
			if _, e := k.Take(x); e != api.OK {
				return e
			}
		}
		for _, id := range ids {
			if e := k.Put(x, volume(id)); e != api.OK {
				return e
			}
		}
		return api.OK
	}
}

// removes is a deed.
func removes(ids ...int) deed {
	return func(k *catalog.Catalog, x *txn.Txn) api.Errno {
		for _, id := range ids {
			if e := k.Remove(x, id); e != api.OK {
				return e
			}
		}
		return api.OK
	}
}

// deeds come behind one that formats.
func deeds() []deed {
	half := firstPlaces(65)[1:]
	return []deed{
		func(_ *catalog.Catalog, x *txn.Txn) api.Errno { return catalog.Format(x, home) },
		puts(1, 1),
		puts(63, half...),
		removes(1, 64, 30),
		puts(2, 65, 66),
		func(_ *catalog.Catalog, x *txn.Txn) api.Errno { return catalog.Format(x, home) },
		puts(3, 2),
	}
}

// tells gives all that a table tells, nil where there is none.
func (b *bench) tells() []api.Entry {
	b.t.Helper()
	k, e := catalog.Open(b.s, home)
	if e == api.ErrCatalogForm {
		return nil
	}
	if e != api.OK {
		b.t.Fatalf("Open = %d", e)
	}
	next, e := k.Next(b.x)
	if e != api.OK {
		b.t.Fatalf("Next = %d", e)
	}
	entries, e := k.List(b.x)
	if e != api.OK {
		b.t.Fatalf("List = %d", e)
	}
	return append([]api.Entry{{Name: "next", ID: next}}, entries...)
}

// done does the deeds until the power goes off; it tells how many were committed, and how many of them last.
func (b *bench) done(all []deed) (int, int) {
	b.t.Helper()
	lasts := 0
	for i, do := range all {
		e := do(b.k, b.x)
		if e == api.OK {
			e = b.x.Commit()
		}
		if e == api.OK && i%2 == 1 {
			if e = b.s.Flush(); e != api.OK {
				return i + 1, lasts
			}
			lasts = i + 1
		}
		if e != api.OK {
			return i, lasts
		}
		if b.x, e = b.s.Begin(); e != api.OK {
			b.t.Fatalf("Begin() = %d", e)
		}
		if b.k == nil {
			b.k = b.open(home)
		}
	}
	return len(all), lasts
}

// Behind a cut the table is that behind some of the transactions.
func TestP8_10Cuts(t *testing.T) {
	var states [][]api.Entry
	for n := range len(deeds()) + 1 {
		b := bare(t)
		if taken, _ := b.done(deeds()[:n]); taken != n {
			t.Fatalf("deed %d is refused", taken)
		}
		states = append(states, b.tells())
	}
	for fuse := 0; ; fuse++ {
		b := bare(t)
		b.d.Fuse(fuse)
		taken, lasts := b.done(deeds())
		b.checkCuts(states, taken, lasts)
		if b.d.On() || t.Failed() {
			return
		}
	}
}

func (b *bench) checkCuts(states [][]api.Entry, taken int, lasts int) {
	b.t.Helper()
	pending, _ := b.d.Pending()
	for _, keep := range choices(len(pending)) {
		image, e := b.d.Crash(keep)
		if e != api.OK {
			b.t.Fatalf("Crash = %d", e)
		}
		d, e := disk.Open(image)
		if e != api.OK {
			b.t.Fatalf("disk.Open = %d", e)
		}
		told := found(b.t, d).tells()
		may := states[lasts:min(taken+2, len(states))]
		if !slices.ContainsFunc(may, func(s []api.Entry) bool { return slices.Equal(s, told) }) {
			b.t.Errorf("behind a cut with %d taken, %d lasting, %d of %d writes left, the table is none that may be: %v", taken, lasts, len(keep), len(pending), told)
		}
	}
}

// A cut between the calls of a transaction, and behind its Abort, leaves nothing of it.
func TestP8_10CutsWithinATransaction(t *testing.T) {
	b := made(t)
	b.take(2)
	b.checkPut(volume(1), api.OK)
	b.commit()
	if e := b.s.Flush(); e != api.OK {
		t.Fatalf("Flush() = %d", e)
	}
	want := b.tells()
	check := func() {
		t.Helper()
		b.checkCuts([][]api.Entry{want}, 0, 0)
	}
	b.take(1)
	check()
	b.checkPut(volume(3), api.OK)
	check()
	b.checkRemove(1, api.OK)
	check()
	b.format(home)
	check()
	b.abort()
	check()
}
