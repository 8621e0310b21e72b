package cost_test

import (
	"testing"

	"cistern/act"
	"cistern/api"
	"cistern/cost"
	"cistern/disk"
	"cistern/pool"
	"cistern/txn"
	"cistern/vol"
)

// bench is a pool and an open transaction in it.
type bench struct {
	t *testing.T
	p *pool.Pool
	x *txn.Txn
}

func poolOf(t *testing.T, capacity int) *pool.Pool {
	t.Helper()
	blocks, e := pool.Needed(capacity)
	if e != api.OK {
		t.Fatalf("Needed(%d) = %d", capacity, e)
	}
	d, _ := disk.New(blocks)
	if e := pool.Format(d, capacity); e != api.OK {
		t.Fatalf("Format(d, %d) = %d", capacity, e)
	}
	p, e := pool.Open(d)
	if e != api.OK {
		t.Fatalf("Open(d) = %d", e)
	}
	return p
}

func benchOf(t *testing.T, capacity int) *bench {
	t.Helper()
	b := &bench{t: t, p: poolOf(t, capacity)}
	b.begin()
	return b
}

func (b *bench) begin() {
	b.t.Helper()
	x, e := b.p.Begin()
	if e != api.OK {
		b.t.Fatalf("Begin() = %d", e)
	}
	b.x = x
}

// commit commits what was done, or gives it up, where it is more than a transaction may be.
func (b *bench) commit() {
	b.t.Helper()
	if e := b.x.Commit(); e != api.OK && e != api.ErrJournalLarge {
		b.t.Fatalf("Commit() = %d", e)
	}
	b.begin()
}

// abort gives up what was done since the last commit.
func (b *bench) abort() {
	b.t.Helper()
	if e := b.x.Abort(); e != api.OK {
		b.t.Fatalf("Abort() = %d", e)
	}
	b.begin()
}

func (b *bench) do(ops ...api.Op) {
	b.t.Helper()
	for _, o := range ops {
		if e := act.Do(b.p, b.x, o); e != api.OK {
			b.t.Fatalf("Do(%s) = %d", told(o), e)
		}
	}
}

func (b *bench) view() api.View {
	b.t.Helper()
	v, e := b.p.View(b.x)
	if e != api.OK {
		b.t.Fatalf("View(t) = %d", e)
	}
	return v
}

// likely draws an operation that the volumes of a view may well take; ends of ranges near edges that the map has.
func (d *drawing) likely(v api.View) api.Op {
	fresh := d.text("f", "g", "h", "i", "j", "k", "l", "m")
	if len(v.Volumes) == 0 {
		return create(fresh, d.number(40, 5000, 262144))
	}
	x := v.Volumes[d.below(len(v.Volumes))]
	from := d.number(0, d.below(70), d.below(8200), 64*d.below(70), 4096*d.below(3), 262144-d.below(70)) % x.Size
	to := min(x.Size, d.number(from, from+1, from+d.below(33), from+d.below(200), from+d.below(9000), (from/64+1)*64, (from/4096+1)*4096, x.Size))
	switch d.below(12) {
	case 0:
		return d.pick(create(fresh, d.number(40, 5000, 262144)), snap(fresh, x.Name), clone(fresh, x.Name))
	case 1:
		return snap(fresh, x.Name)
	case 2:
		return d.pick(rename(x.Name, fresh), remove(x.Name), restore(x.Name, v.Volumes[d.below(len(v.Volumes))].Name), extend(v.Capacity+d.below(3)-1))
	case 3, 4:
		return resize(x.Name, d.number(1+d.below(x.Size), 1+d.below(200), 64*(1+d.below(200)), 4096*(1+d.below(3)), 262144))
	case 5, 6, 7:
		return discard(x.Name, from, to)
	case 8, 9:
		return fill(x.Name, from, min(to, from+32))
	}
	return write(x.Name, from)
}

// In pools behind many kinds of operations, and in the midst of transactions, nothing costs more than its worst.
func TestP26_4NothingCostsMore(t *testing.T) {
	d := &drawing{seed: 3}
	var below, equal [12]int
	for range 8 {
		b := benchOf(t, 3000)
		for step := range 150 {
			v := b.view()
			for range 12 {
				o := d.likely(v)
				n, e := act.Cost(b.p, b.x, o)
				if e != api.OK {
					continue
				}
				worst, e := cost.Worst(o)
				if n > worst || e != api.OK {
					t.Fatalf("%s costs %d; Worst = %d, %d", told(o), n, worst, e)
				}
				if n < worst {
					below[o.Kind]++
				} else {
					equal[o.Kind]++
				}
			}
			o := d.likely(v)
			if o.Kind != api.OpDelete || d.below(4) == 0 {
				act.Do(b.p, b.x, o)
			}
			if step%3 == 0 {
				b.commit()
			}
		}
	}
	for _, kind := range []int{api.OpResize, api.OpWrite, api.OpDiscard, api.OpFill} {
		if below[kind] < 50 || equal[kind] < 20 {
			t.Errorf("of kind %d %d cost less, %d the worst", kind, below[kind], equal[kind])
		}
	}
	for _, kind := range []int{api.OpCreate, api.OpSnap, api.OpClone, api.OpRename, api.OpDelete, api.OpRestore} {
		if below[kind] > 0 || equal[kind] < 10 {
			t.Errorf("of kind %d %d cost less, %d the worst", kind, below[kind], equal[kind])
		}
	}
}

// What fits by the view of a pool is done by it, each operation in a transaction of its own, and never refused for room.
func TestP26_4WhatFitsIsDone(t *testing.T) {
	d := &drawing{seed: 4}
	fit, great, short := 0, 0, 0
	for range 40 {
		p := poolOf(t, 40+d.below(150))
		for range 60 {
			v, e := vol.View(p)
			if e != api.OK {
				t.Fatalf("View(p) = %d", e)
			}
			var ops []api.Op
			for range 1 + d.below(12) {
				ops = append(ops, d.likely(v))
			}
			fits, e := cost.Fits(v, ops)
			if e != api.OK {
				continue
			}
			for _, o := range ops {
				e := vol.Do(p, o)
				if e == api.ErrSpaceFull && fits {
					t.Fatalf("%s is refused; %d were free, and %s fit", told(o), v.Free, told(ops...))
				}
				if e == api.ErrSpaceFull {
					short++
				}
			}
			after, _ := vol.View(p)
			if fits && after.Free < v.Free {
				fit++
			}
			if fits && after.Free < v.Free/2 {
				great++
			}
		}
	}
	if fit < 50 || great < 10 || short < 50 {
		t.Errorf("%d lists that fit took some, %d of them much; %d operations had no room", fit, great, short)
	}
}

// A list may take all that is free.
func TestP26_4JustAsMuchAsIsFree(t *testing.T) {
	ops := list(create("a", 262144), write("a", 0), fill("a", 4090, 4100), fill("a", 8180, 8192), create("b", 1), write("b", 0))
	checkAll(t, ops, 4+15+15+4)
	// Each of the fills finds two of its nodes there: so 34 are taken.
	for _, x := range []struct {
		capacity int
		fits     bool
		last     api.Errno
	}{{38, true, api.OK}, {37, false, api.OK}, {34, false, api.OK}, {33, false, api.ErrSpaceFull}} {
		p := poolOf(t, x.capacity)
		v, _ := vol.View(p)
		if fits, e := cost.Fits(v, ops); fits != x.fits || e != api.OK {
			t.Errorf("Fits of %d free = %v, %d", v.Free, fits, e)
		}
		last := api.OK
		for _, o := range ops {
			last = vol.Do(p, o)
		}
		if last != x.last {
			t.Errorf("the last with %d free = %d; want %d", v.Free, last, x.last)
		}
	}
}

// checkTight holds that an operation costs its worst in the pool as it is: with so many free it is done, with one less refused.
func (b *bench) checkTight(o api.Op) {
	b.t.Helper()
	worst, e := cost.Worst(o)
	if e != api.OK {
		b.t.Fatalf("Worst(%s) = %d", told(o), e)
	}
	if n, e := act.Cost(b.p, b.x, o); n != worst || e != api.OK {
		b.t.Fatalf("%s costs %d, %d; Worst is %d", told(o), n, e, worst)
	}
	var e2 api.Errno
	for free := b.view().Free; free > worst && e2 == api.OK; free-- {
		_, e2 = b.p.Space().Alloc(b.x)
	}
	if fits, e := cost.Fits(b.view(), list(o)); !fits || e != api.OK || e2 != api.OK {
		b.t.Errorf("Fits(v, %s) = %v, %d, where %d are free", told(o), fits, e, b.view().Free)
	}
	if worst > 0 {
		b.p.Space().Alloc(b.x)
		if e := act.Do(b.p, b.x, o); e != api.ErrSpaceFull {
			b.t.Errorf("Do(%s) with %d free = %d", told(o), worst-1, e)
		}
	}
}

// For each kind, and all ends of ranges near the edges of all levels, there is a pool in which the cost is the worst.
func TestP26_5AsMuchAsTheWorst(t *testing.T) {
	b := benchOf(t, 60)
	b.do(create("a", 262144), create("b", 10))
	b.commit()
	for _, at := range edges()[:len(edges())-1] {
		b.checkTight(write("a", at))
		b.abort()
	}
	for _, from := range edges() {
		for length := range 33 {
			if from+length <= 262144 {
				b.checkTight(fill("a", from, from+length))
				b.abort()
			}
		}
	}
	for _, o := range list(create("c", 5), snap("s", "a"), clone("c", "a"), rename("a", "c"), remove("a"), restore("a", "b"), fill("a", 9, 9)) {
		b.checkTight(o)
		b.abort()
	}
}

// What is let go costs its worst where all is shared, and mapped on both sides of the ends.
func TestP26_5DropsOfWhatIsShared(t *testing.T) {
	b := benchOf(t, 60)
	b.do(create("a", 262144))
	b.commit()
	share := func(ends ...int) {
		for _, end := range ends {
			for _, l := range []int{end - 1, end} {
				if l >= 0 && l < 262144 {
					b.do(write("a", l))
				}
			}
		}
		b.do(snap("s", "a"))
	}
	for _, from := range edges() {
		for _, to := range edges() {
			if from <= to {
				share(from, to)
				b.checkTight(discard("a", from, to))
				b.abort()
			}
		}
	}
	for _, to := range edges()[1:] {
		share(to)
		b.checkTight(resize("a", to))
		b.abort()
	}
}

// An extension takes nothing, not even in a pool of which all is taken.
func TestP26_5Extend(t *testing.T) {
	blocks, _ := pool.Needed(70)
	d, _ := disk.New(blocks)
	if e := pool.Format(d, 60); e != api.OK {
		t.Fatalf("Format = %d", e)
	}
	p, e := pool.Open(d)
	if e != api.OK {
		t.Fatalf("Open = %d", e)
	}
	b := &bench{t: t, p: p}
	b.begin()
	b.checkTight(extend(70))
	b.do(extend(70))
	if v := b.view(); v.Free != 10 {
		t.Errorf("%d are free", v.Free)
	}
}
