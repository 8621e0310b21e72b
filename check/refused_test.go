package check_test

import (
	"bytes"
	"slices"
	"testing"

	"cistern/api"
	"cistern/check"
	"cistern/pool"
)

// refuse holds that Check answers an error, and nothing beside it.
func refuse(t *testing.T, p *pool.Pool, want api.Errno) {
	t.Helper()
	if got, e := check.Check(p); len(got) != 0 || e != want {
		t.Errorf("Check = %v, %d; want nothing, %d", got, e, want)
	}
}

func TestR3ANilPool(t *testing.T) { refuse(t, nil, api.ErrNil) }

// The power is off: that is told ahead of all else, also where a transaction is open, and whatever is wrong with the pool.
func TestR6ThePowerIsOff(t *testing.T) {
	for _, open := range []bool{false, true} {
		for _, spoilt := range []bool{false, true} {
			b := used(t)
			if spoilt {
				b.alloc()
				b.setRoot("a", 301)
			}
			if open {
				b.begin()
			}
			before := b.image()
			b.darken()
			refuse(t, b.p, api.ErrDiskOff)
			refuse(t, nil, api.ErrNil)
			if !bytes.Equal(b.image(), before) {
				t.Errorf("Check with the power off has changed the disk")
			}
		}
	}
}

// A transaction is open: that is told whatever is wrong with the pool, and it is open still, and as it was.
func TestP14_1ATransactionIsOpen(t *testing.T) {
	for _, spoilt := range []bool{false, true} {
		b := used(t)
		if spoilt {
			b.setRoot("a", 301)
		}
		before, pending := b.image(), b.pending()
		x := b.begin()
		at := b.place(290)
		x.Write(at, full(200))
		mark, _ := x.Mark()
		x.Write(at, full(201))
		refuse(t, b.p, api.ErrTxnOpen)
		if data, e := x.Read(at); !bytes.Equal(data, full(201)) || e != api.OK {
			t.Errorf("behind Check Read of the open transaction = %.1q, %d", data, e)
		}
		if e := x.Back(mark); e != api.OK {
			t.Errorf("Back(%d) = %d", mark, e)
		}
		if n, e := x.Mark(); n != mark+1 || e != api.OK {
			t.Errorf("behind Check Mark() = %d, %d; want %d", n, e, mark+1)
		}
		if !bytes.Equal(b.image(), before) || !slices.Equal(b.pending(), pending) {
			t.Errorf("Check with a transaction open has written to the disk")
		}
		if e := x.Commit(); e != api.OK {
			t.Errorf("Commit() = %d", e)
		}
		x = b.begin()
		if data, e := x.Read(at); !bytes.Equal(data, full(200)) || e != api.OK {
			t.Errorf("behind its commit Read = %.1q, %d", data, e)
		}
		x.Abort()
		b.checkByModel("behind the transaction")
	}
}

// What an open transaction has done and given up is not told, and what it has committed is.
func TestP14_1WhatIsCommittedIsTold(t *testing.T) {
	b := used(t)
	x := b.begin()
	b.p.Space().Alloc(x)
	b.p.Catalog().Put(x, api.Entry{Name: "o", ID: 5, Size: 1, Root: 301})
	x.Abort()
	b.checkFits("what was given up")
	x = b.begin()
	leak, _ := b.p.Space().Alloc(x)
	x.Commit()
	b.check("what was committed", counted(leak, 1, 0))
	refuse(t, nil, api.ErrNil)
}

// Nothing is written, pending or not, and no power goes off in the call; nor is anything flushed.
func TestR5ACallThatOnlyTells(t *testing.T) {
	for _, spoilt := range []bool{false, true} {
		b := used(t)
		b.do(write("a", 2, full(0)), discard("a", 2, 3))
		if spoilt {
			b.alloc()
			b.setSize("o", 1)
		}
		before := b.state()
		b.d.Fuse(0)
		for range 3 {
			check.Check(b.p)
			b.checkClosed("Check")
			if !b.d.On() || b.state() != before {
				t.Fatalf("behind Check something is changed")
			}
		}
	}
}

// What is handed out is asked twice, and written over in between, with its spare room.
func TestR4WhatIsHandedOutIsNew(t *testing.T) {
	b := used(t)
	b.alloc()
	b.setSize("o", 1)
	b.setOrigin("s", 2)
	image := b.image()
	ask := []func() ([]api.Problem, api.Errno){
		func() ([]api.Problem, api.Errno) { return check.Check(b.p) },
		func() ([]api.Problem, api.Errno) { return check.CheckImage(image) },
	}
	for _, one := range ask {
		for _, other := range ask {
			first, _ := one()
			second, _ := other()
			want := slices.Clone(first)
			if len(want) != 3 {
				t.Fatalf("there are %v", want)
			}
			first = first[:cap(first)]
			for i := range first {
				first[i] = api.Problem{Kind: 9, Where: 9, Found: 9, Wanted: 9}
			}
			third, _ := other()
			if !slices.Equal(second, want) || !slices.Equal(third, want) {
				t.Errorf("who writes into what was handed out changes what is handed out besides")
			}
		}
	}
	if !bytes.Equal(b.image(), image) {
		t.Errorf("who writes into what was handed out changes the disk")
	}
}

// Volumes of many thousands of blocks: many that are one map, and some that have a way of their own.
func TestP14GreatVolumes(t *testing.T) {
	b := made(t, 30000, 0)
	b.do(create("a", 262144))
	for l := 98304; l < 98304+8192; l += 32 {
		b.do(fill("a", l, l+32))
	}
	for i := range 20 {
		name := "s" + string(rune('a'+i))
		b.do(snap(name, "a"))
		if i%2 == 0 {
			b.do(write(name, 98304+i*400, full(1)))
		}
	}
	b.checkFits("great volumes")
	block := b.path("a", 100000)[3]
	b.unref(block)
	b.setSize("sc", 100000)
	b.check("great volumes with problems", counted(block, 0, 1), api.Problem{Kind: api.ProblemSize, Where: b.get("sc").ID, Found: 98304 + 8192, Wanted: 100000})
}
