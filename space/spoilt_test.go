package space_test

import (
	"bytes"
	"testing"

	"cistern/api"
	"cistern/space"
	"cistern/txn"
)

// How many blocks the disks of these tests have.
const spoiltTotal = 130

// askAll calls every method, each of them where it may be taken, and where it may be refused: then it answers 0 and changes nothing.
func askAll(t *testing.T, p *space.Space, x *txn.Txn, room int) {
	t.Helper()
	for _, b := range []int{-1, 0, 1, 2, room / 2, room, room + 1} {
		for what, call := range map[string]func() (int, api.Errno){
			"Count":  func() (int, api.Errno) { return p.Count(x, b) },
			"Counts": func() (int, api.Errno) { return countOf(p, x, b) },
			"Unref":  func() (int, api.Errno) { return p.Unref(x, b) },
			"Ref":    func() (int, api.Errno) { return 0, p.Ref(x, b) },
			"Alloc":  func() (int, api.Errno) { return p.Alloc(x) },
			"Free":   func() (int, api.Errno) { return p.Free(x) },
			"Size":   func() (int, api.Errno) { return p.Size(x) },
			"Grow":   func() (int, api.Errno) { return 0, p.Grow(x, b) },
		} {
			before := seenBlocks(t, x, spoiltTotal)
			n, e := call()
			if n < 0 || e != api.OK && n != 0 {
				t.Errorf("%s over what is no table = %d, %d", what, n, e)
			}
			if e != api.OK && !bytes.Equal(seenBlocks(t, x, spoiltTotal), before) {
				t.Errorf("%s over what is no table answers %d, and has changed a block", what, e)
			}
		}
	}
}

// checkOther holds that no block is changed but those of a table of that room.
func checkOther(t *testing.T, b *bench, x *txn.Txn, total int, room int) {
	t.Helper()
	for at := home; at < total; at++ {
		now, e := x.Read(at)
		was, _ := b.s.Read(at)
		inside := at < home+blocksOf(t, room)
		if e != api.OK || !inside && !bytes.Equal(now, was) {
			t.Errorf("a call over no table has changed block %d", at)
		}
	}
}

func TestP6OverBlocksThatHoldNoTable(t *testing.T) {
	const total = spoiltTotal
	for name, fill := range map[string]func(at int) []byte{
		"zeros": func(int) []byte { return full(0) },
		"ones":  func(int) []byte { return full(1) },
		"255":   func(int) []byte { return full(255) },
		"noise": func(at int) []byte { return noise(512, uint32(at)) },
	} {
		for _, room := range []int{1, 10, 480, 481, 5000, 262144} {
			b := made(t, total)
			b.do(func(x *txn.Txn) {
				for at := home; at < total; at++ {
					x.Write(at, fill(at))
				}
			})
			x := b.begin()
			p := b.open(home, room)
			askAll(t, p, x, room)
			if n, e := p.Size(x); n != 0 || e != api.ErrSpaceForm {
				t.Errorf("Size over %s = %d, %d; want ErrSpaceForm", name, n, e)
			}
			checkRefused(t, p, x, api.ErrSpaceForm)
		}
	}
}

// A table of another room, one that begins elsewhere, and blocks that the journal has not.
func TestP6OverATableOfSomethingElse(t *testing.T) {
	const total = spoiltTotal
	b := made(t, total)
	p := b.space(home+2, 2000, 1500)
	b.do(func(x *txn.Txn) { checkAllocs(t, p, x, 1, 1500) })
	for _, c := range []struct{ from, room int }{
		{home + 2, 1999}, {home + 2, 2001}, {home + 2, 1}, {home + 2, 262144}, {home + 1, 2000}, {home + 3, 2000},
		{home + 1, 10}, {-1, 10}, {0, 10}, {total, 10}, {total - 1, 10},
	} {
		x := b.begin()
		askAll(t, b.open(c.from, c.room), x, c.room)
		abort(t, x)
	}
	b.do(func(x *txn.Txn) { checkCount(t, p, x, 1500, 1, api.OK) })
}

// Each block of a table in its turn is spoilt, in the transaction and in what is committed: as a whole, or but for
// its beginning, or it is another block of the table.
func TestP6OverATableThatIsSpoilt(t *testing.T) {
	const total, room = spoiltTotal, 2000
	size := blocksOf(t, room)
	for i := range size {
		for name, spoil := range map[string]func(old []byte, next []byte) []byte{
			"zeros":   func([]byte, []byte) []byte { return full(0) },
			"255":     func([]byte, []byte) []byte { return full(255) },
			"a body":  func(old []byte, _ []byte) []byte { return append(old[:32:32], full(255)[32:]...) },
			"noise":   func(old []byte, _ []byte) []byte { return append(old[:32:32], noise(480, uint32(i))...) },
			"a head":  func(old []byte, _ []byte) []byte { return append(append(old[:21:21], full(255)[:11]...), old[32:]...) },
			"no size": func(old []byte, _ []byte) []byte { return append(append(old[:21:21], full(0)[:11]...), old[32:]...) },
			"another": func(_ []byte, next []byte) []byte { return next },
		} {
			b := made(t, total)
			p := b.space(home, room, 1900)
			b.do(func(x *txn.Txn) { checkAllocs(t, p, x, 1, 700) })
			x := b.begin()
			old, _ := x.Read(home + i)
			next, _ := x.Read(home + (i+1)%size)
			x.Write(home+i, spoil(old, next))
			if n, e := p.Size(x); i == 0 && name != "a body" && name != "noise" && (n != 0 || e != api.ErrSpaceForm) {
				t.Errorf("Size, where the first block is spoilt by %s = %d, %d", name, n, e)
			}
			if i == 0 && name == "a body" {
				checkUnref(t, p, x, 1, 0, api.ErrSpaceForm)
			}
			askAll(t, p, x, room)
			checkOther(t, b, x, total, room)
			commit(t, x)
			x = b.begin()
			askAll(t, p, x, room)
			checkFormat(t, x, home, room, 1900, api.OK)
			checkSize(t, p, x, 1900)
			checkOther(t, b, x, total, room)
			commit(t, x)
			b.do(func(x *txn.Txn) {
				if n, e := p.Free(x); n != 1900 || e != api.OK {
					t.Errorf("Free of what was laid over %s = %d, %d", name, n, e)
				}
			})
		}
	}
}
