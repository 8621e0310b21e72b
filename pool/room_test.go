package pool_test

import (
	"fmt"
	"testing"

	"cistern/api"
	"cistern/pool"
)

// putAll brings 64 volumes, so that all of the catalog is written.
func (b *bench) putAll() {
	b.t.Helper()
	for i := range 64 {
		b.put(fmt.Sprintf("v%d", i))
	}
}

// beside gives blocks that no table and no slot lies in: pool blocks, and where there are too few of them others that are free.
func (b *bench) beside(count int) []int {
	b.t.Helper()
	var out []int
	for block := b.bound(); block >= 1 && len(out) < count; block-- {
		out = append(out, b.place(block))
	}
	all, _ := b.d.Blocks()
	for at := all - 1; len(out) < count && at > b.place(b.bound()); at-- {
		out = append(out, at)
	}
	if len(out) < count {
		b.t.Fatalf("there are %d blocks beside; want %d", len(out), count)
	}
	return out
}

// The greatest transaction: every count, every entry, the greatest slot, a greater capacity, and 37 blocks beside.
func TestP9_11TheGreatestTransaction(t *testing.T) {
	for _, c := range []int{1, 16, 37, 100, 480, 481, 960, 961, 5000, 28800, 28801, 262144} {
		b := made(t, neededFor(c), max(c-1, 1))
		if c > 1 {
			b.checkExtend(c, api.OK)
		}
		b.alloc(c)
		b.putAll()
		b.checkSetSlot(greatest(api.SlotRunning), api.OK)
		for i, at := range b.beside(37) {
			if e := b.x.Write(at, full(byte(i+1))); e != api.OK {
				t.Fatalf("Write(%d) = %d", at, e)
			}
		}
		if e := b.x.Commit(); e != api.OK {
			t.Fatalf("Commit() of the greatest transaction of a pool of %d = %d", c, e)
		}
		b.begin()
		b.sync()
		if c > 30000 {
			continue
		}
		for _, n := range []*bench{b, b.lasting()} {
			v := n.view()
			if v.Capacity != c || v.Free != 0 || v.Next != 65 || len(v.Volumes) != 64 {
				t.Errorf("of the greatest transaction of a pool of %d there is capacity %d, free %d, next %d, %d volumes", c, v.Capacity, v.Free, v.Next, len(v.Volumes))
			}
			n.checkSlot(greatest(api.SlotRunning))
			for i, at := range n.beside(37) {
				if data, e := n.x.Read(at); e != api.OK || data[0] != byte(i+1) {
					t.Errorf("block %d of the greatest transaction is not there", at)
				}
			}
		}
	}
}

// Such transactions one behind the other, with little room in the log between them.
func TestP9_11GreatTransactionsInARow(t *testing.T) {
	b := made(t, 400, 100)
	b.putAll()
	b.commit()
	for turn := range 12 {
		b.fillCounts(turn%2 == 0)
		b.checkSetSlot(greatest(1+turn%3), api.OK)
		for id := 1; id <= 64; id++ {
			b.lay(api.Entry{Name: fmt.Sprintf("w%d", id), ID: id, Size: 1 + turn})
		}
		for i, at := range b.beside(37) {
			if e := b.x.Write(at, full(byte(turn+i))); e != api.OK {
				t.Fatalf("Write(%d) = %d", at, e)
			}
		}
		b.commit()
		if turn%5 == 4 {
			before := b.state()
			if b.seen().state() != before {
				t.Errorf("behind great transactions another pool is found")
			}
		}
	}
}

// What layer 6 and layer 8 write when they lay their tables anew is theirs too.
func TestP9_11AllBlocksOfTheTables(t *testing.T) {
	for _, c := range []int{1, 136, 30000} {
		b := made(t, neededFor(c), c)
		for _, home := range []func(p *pool.Pool) (int, int){pool.SlotHome, pool.CountsHome, pool.EntriesHome} {
			from, count := home(b.p)
			for at := from; at < from+count; at++ {
				data, _ := b.x.Read(at)
				if e := b.x.Write(at, data); e != api.OK {
					t.Fatalf("Write(%d) = %d", at, e)
				}
			}
		}
		for i, at := range b.beside(37) {
			if e := b.x.Write(at, full(byte(i))); e != api.OK {
				t.Fatalf("Write(%d) = %d", at, e)
			}
		}
		if e := b.x.Commit(); e != api.OK {
			t.Errorf("Commit() of all blocks of the tables of a pool of %d = %d", c, e)
		}
	}
}

// What an operation writes at most, and a slot: a range of 32 blocks that crosses nodes of all levels, all of them copied.
func TestP9_11AnOperationAndASlot(t *testing.T) {
	b := made(t, 600, 200)
	from := 4096 - 16
	mapped := []int{}
	for l := from; l < from+32; l++ {
		mapped = append(mapped, l)
	}
	a := b.put("a", mapped...)
	b.commit()
	if e := b.p.Map().Share(b.x, a.Root); e != api.OK {
		t.Fatalf("Share = %d", e)
	}
	s := b.put("s")
	s.Root = a.Root
	b.lay(s)
	b.commit()
	for _, l := range mapped {
		root, block, e := b.p.Map().Assign(b.x, a.Root, l)
		if e != api.OK {
			t.Fatalf("Assign = %d", e)
		}
		a.Root = root
		b.write(block, full(byte(l)))
	}
	b.lay(a)
	b.checkSetSlot(greatest(api.SlotRunning), api.OK)
	if e := b.x.Commit(); e != api.OK {
		t.Errorf("Commit() of an operation and a slot = %d", e)
	}
}
