package space_test

import (
	"slices"
	"testing"

	"cistern/api"
	"cistern/disk"
	"cistern/space"
	"cistern/txn"
)

// choices gives some of the ways in which n pending writes stay: none, all, each alone, all but each, and beginnings.
func choices(n int) [][]int {
	all := firstPlaces(n)
	out := [][]int{nil, all}
	for i := range n {
		out = append(out, all[i:i+1], all[:i], slices.Delete(slices.Clone(all), i, i+1))
	}
	return out
}

// deeds are transactions over a table of room 600, each with what stands there behind it: the size, and then the counts.
func deeds(p *space.Space) []func(x *txn.Txn) api.Errno {
	do := func(x *txn.Txn, times int, call func(x *txn.Txn) api.Errno) api.Errno {
		for range times {
			if e := call(x); e != api.OK {
				return e
			}
		}
		return api.OK
	}
	alloc := func(x *txn.Txn) api.Errno {
		_, e := p.Alloc(x)
		return e
	}
	unref := func(b int) func(x *txn.Txn) api.Errno {
		return func(x *txn.Txn) api.Errno {
			_, e := p.Unref(x, b)
			return e
		}
	}
	return []func(x *txn.Txn) api.Errno{
		func(x *txn.Txn) api.Errno { return space.Format(x, home, 600, 500) },
		func(x *txn.Txn) api.Errno { return do(x, 500, alloc) },
		func(x *txn.Txn) api.Errno { return do(x, 1, unref(2)) },
		func(x *txn.Txn) api.Errno { return max(p.Grow(x, 600), do(x, 1, unref(490)), do(x, 2, alloc)) },
		func(x *txn.Txn) api.Errno { return do(x, 3, alloc) },
		func(x *txn.Txn) api.Errno { return space.Format(x, home, 600, 20) },
	}
}

// tells gives all that a table tells: the size, what is free, each count. Nothing, where there is no table.
func (b *bench) tells() []int {
	b.t.Helper()
	p := b.open(home, 600)
	x := b.begin()
	size, e := p.Size(x)
	if e == api.ErrSpaceForm {
		return nil
	}
	free, _ := p.Free(x)
	told := []int{size, free}
	for n := 1; n <= size; n++ {
		count, e := p.Count(x, n)
		if e != api.OK {
			b.t.Errorf("Count(t, %d) = %d", n, e)
		}
		told = append(told, count)
	}
	return told
}

// done does the deeds until the power goes off; it tells how many were committed, and how many of them last.
func (b *bench) done() (int, int) {
	b.t.Helper()
	lasts := 0
	for i, deed := range deeds(b.open(home, 600)) {
		x, e := b.s.Begin()
		if e == api.OK {
			e = max(deed(x), x.Commit())
		}
		if e == api.OK && i%2 == 1 {
			if e := b.s.Flush(); e != api.OK {
				return i + 1, lasts
			}
			lasts = i + 1
		}
		if e != api.OK {
			return i, lasts
		}
	}
	return len(deeds(nil)), lasts
}

// Behind a cut the counts, and what is free, are those behind some of the transactions.
func TestP6_11Cuts(t *testing.T) {
	states := [][]int{made(t, 120).tells()}
	for n := range deeds(nil) {
		b := made(t, 120)
		p := b.open(home, 600)
		for _, deed := range deeds(p)[:n+1] {
			b.do(func(x *txn.Txn) {
				if e := deed(x); e != api.OK {
					t.Fatalf("a deed is refused: %d", e)
				}
			})
		}
		states = append(states, b.tells())
	}
	for fuse := 0; ; fuse++ {
		b := made(t, 120)
		b.d.Fuse(fuse)
		taken, lasts := b.done()
		b.checkCuts(states, taken, lasts)
		if b.d.On() || t.Failed() {
			return
		}
	}
}

func (b *bench) checkCuts(states [][]int, taken int, lasts int) {
	b.t.Helper()
	pending, _ := b.d.Pending()
	for _, keep := range choices(len(pending)) {
		image, e := b.d.Crash(keep)
		if e != api.OK {
			b.t.Fatalf("Crash = %d", e)
		}
		d, e := disk.Open(image)
		if e != api.OK {
			b.t.Fatalf("disk.Open = %d", e)
		}
		told := opened(b.t, d, b.from, b.blocks).tells()
		may := states[lasts:min(taken+2, len(states))]
		if !slices.ContainsFunc(may, func(s []int) bool { return slices.Equal(s, told) }) {
			b.t.Errorf("behind a cut with %d taken, %d lasting, %d of %d writes left, the table is none that may be", taken, lasts, len(keep), len(pending))
		}
	}
}
