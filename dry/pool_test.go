package dry_test

import (
	"fmt"
	"testing"

	"cistern/act"
	"cistern/api"
	"cistern/disk"
	"cistern/dry"
	"cistern/pool"
	"cistern/txn"
)

// bench is a pool and an open transaction over it.
type bench struct {
	t *testing.T
	p *pool.Pool
	x *txn.Txn
}

// made gives a new pool of a capacity, on a disk that holds so many more pool blocks.
func made(t *testing.T, capacity int, more int) *bench {
	t.Helper()
	blocks, e := pool.Needed(capacity + more)
	if e != api.OK {
		t.Fatalf("Needed = %d", e)
	}
	d, e := disk.New(blocks)
	if e != api.OK {
		t.Fatalf("disk.New = %d", e)
	}
	if e := pool.Format(d, capacity); e != api.OK {
		t.Fatalf("Format = %d", e)
	}
	p, e := pool.Open(d)
	if e != api.OK {
		t.Fatalf("Open = %d", e)
	}
	b := &bench{t: t, p: p}
	b.begin()
	return b
}

func (b *bench) begin() {
	b.t.Helper()
	x, e := b.p.Begin()
	if e != api.OK {
		b.t.Fatalf("Begin = %d", e)
	}
	b.x = x
}

// commit commits, and begins the next transaction.
func (b *bench) commit() {
	b.t.Helper()
	if e := b.x.Commit(); e != api.OK {
		b.t.Fatalf("Commit = %d", e)
	}
	b.begin()
}

func (b *bench) view() api.View {
	b.t.Helper()
	v, e := b.p.View(b.x)
	if e != api.OK {
		b.t.Fatalf("View = %d", e)
	}
	return v
}

// setPartial says of a volume whether it is Partial.
func (b *bench) setPartial(name string, is bool) {
	b.t.Helper()
	v, e := b.p.Catalog().Find(b.x, name)
	if e != api.OK {
		b.t.Fatalf("Find(%q) = %d", name, e)
	}
	v.Partial = is
	if e := b.p.Catalog().Put(b.x, v); e != api.OK {
		b.t.Fatalf("Put = %d", e)
	}
}

// check holds what the pool does against what is told ahead of it, and gives what the pool answers.
func (b *bench) check(o api.Op) api.Errno {
	b.t.Helper()
	v := b.view()
	wanted, want := dry.Do(v, o)
	e := act.Do(b.p, b.x, o)
	behind := b.view()
	switch {
	case e == api.OK && (want != api.OK || !dry.Same(behind, wanted)):
		b.t.Fatalf("over %s\nDo(%s) is told as %s, %d;\nthe pool is %s", told(v), toldOp(o), told(wanted), want, told(behind))
	case e == api.OK && told(modelOf(wanted).view()) != told(wanted):
		b.t.Fatalf("behind Do(%s) ranges are not in their one form: %s", toldOp(o), told(wanted))
	case want != api.OK && e != want, e != api.OK && e != api.ErrPoolSize && e != api.ErrSpaceFull && want != e:
		b.t.Fatalf("over %s\nDo(%s) is told as %d, and the pool answers %d", told(v), toldOp(o), want, e)
	}
	return e
}

// Drawn operations over pools, with much room and with little, accepted and refused.
func TestP21_4AsThePoolDoes(t *testing.T) {
	d := &drawing{seed: 4}
	met := map[api.Errno]int{}
	kinds := map[int]int{}
	for _, capacity := range []int{12, 40, 150, 400, 400, 400, 1000, 1000} {
		b := made(t, capacity, 10)
		for i := range 900 {
			v := b.view()
			o := d.op(v)
			if o.Kind == api.OpExtend && d.below(4) > 0 {
				o.To = v.Capacity
			}
			e := b.check(o)
			met[e]++
			if e == api.OK {
				kinds[o.Kind]++
			}
			if n := len(v.Volumes); i%40 == 0 && n > 0 && e != api.OK {
				x := v.Volumes[d.below(n)]
				b.setPartial(x.Name, !x.Partial)
			}
			if i%7 == 0 {
				b.commit()
			}
		}
	}
	checkMet(t, met, 10, api.OK, api.ErrActKind, api.ErrActForm, api.ErrActName, api.ErrActData, api.ErrActUnknown, api.ErrActTaken,
		api.ErrActSize, api.ErrActRange, api.ErrActPartial, api.ErrActChildren, api.ErrSpaceFull, api.ErrPoolSize)
	for kind := 1; kind <= 11; kind++ {
		if kinds[kind] < 30 {
			t.Errorf("kind %d was done %d times; all: %v", kind, kinds[kind], kinds)
		}
	}
}

// All choices of fields, over a pool with volumes of all sorts, and over one with as many volumes as may be.
func TestP21_4AllChoices(t *testing.T) {
	for _, isFull := range []bool{false, true} {
		b := made(t, 300, 20)
		for _, o := range []api.Op{
			create("a", 40), write("a", 0), fill("a", 30, 40), snap("s", "a"), clone("c", "a"), write("c", 2), create("p", 40), write("p", 0), create("e", 40),
		} {
			if e := b.check(o); e != api.OK {
				t.Fatalf("%s = %d", toldOp(o), e)
			}
		}
		for i := len(b.view().Volumes); isFull && i < 64; i++ {
			b.check(create(fmt.Sprintf("v%d", i), 1))
		}
		b.setPartial("p", true)
		for kind := 0; kind <= 12; kind++ {
			for i, o := range choices(kind) {
				if i%17 != kind {
					continue
				}
				mark, e := b.x.Mark()
				if e != api.OK {
					t.Fatalf("Mark = %d", e)
				}
				b.check(o)
				if e := b.x.Back(mark); e != api.OK {
					t.Fatalf("Back = %d", e)
				}
			}
		}
	}
}

// What a program comes to is told by All, as far as the pool has room.
func TestP21_4ProgramsOverAPool(t *testing.T) {
	d := &drawing{seed: 5}
	done, refused := 0, 0
	for range 60 {
		b := made(t, 2000, 0)
		v := b.view()
		var ops []api.Op
		for range 12 {
			o := d.op(v)
			if behind, e := dry.Do(v, o); e == api.OK && o.Kind != api.OpExtend {
				v, ops = behind, append(ops, o)
			} else if d.below(40) == 0 {
				ops = append(ops, o)
			}
		}
		start := b.view()
		wanted, at, want := dry.All(start, ops)
		e, i := api.OK, 0
		for i = 0; i < len(ops) && e == api.OK; i++ {
			e = act.Do(b.p, b.x, ops[i])
		}
		if e == api.ErrPoolSize {
			continue
		}
		if e != want || e != api.OK && at != i-1 || e == api.OK && !dry.Same(wanted, b.view()) {
			t.Fatalf("All = %s, %d, %d; the pool has come to %s, %d, %d", told(wanted), at, want, told(b.view()), i-1, e)
		}
		if e == api.OK {
			done++
		} else {
			refused++
		}
	}
	if done < 20 || refused < 5 {
		t.Errorf("%d programs were done, %d refused", done, refused)
	}
}
