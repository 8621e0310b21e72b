package cost_test

import (
	"fmt"
	"sync"
	"testing"

	"cistern/api"
	"cistern/cost"
)

// some are operations with worsts of all sorts.
func some() []api.Op {
	return list(write("a", 5), create("b", 10), fill("a", 60, 92), discard("a", 1, 8191), resize("a", 10), snap("s", "a"), write("b", 9), remove("s"))
}

func TestR1NoneAndEmpty(t *testing.T) {
	for _, ops := range [][]api.Op{nil, {}, make([]api.Op, 0, 5)} {
		checkAll(t, ops, 0)
		checkFits(t, 0, ops, true)
	}
	for _, data := range [][]byte{nil, {}, make([]byte, 0, 5)} {
		o := discard("a", 1, 8191)
		o.Data = data
		check(t, o, 5)
		checkAll(t, list(o, o), 10)
		checkNone(t, api.Op{Kind: api.OpWrite, Name: "a", Data: data}, api.ErrActData)
	}
}

// handed is what the calls are handed, with spare room behind the lists.
type handed struct {
	v   api.View
	ops []api.Op
}

func handedOf() handed {
	h := handed{v: api.View{Capacity: 100, Free: 80, Next: 3, Volumes: make([]api.Volume, 2, 5)}, ops: append(make([]api.Op, 0, 20), some()...)}
	for i := range 5 {
		h.v.Volumes[:5][i] = api.Volume{Name: fmt.Sprint("v", i), ID: i + 1, Size: 10, Mapped: []api.Range{{From: i, To: 9}, {From: 77, To: 78}}[:1]}
	}
	for i := range h.ops {
		if h.ops[i].Kind == api.OpWrite {
			h.ops[i].Data = make([]byte, api.BlockSize, 600)
			h.ops[i].Data[:600][599] = 7
		}
	}
	for i := len(h.ops); i < 20; i++ {
		h.ops[:20][i] = remove("spare")
	}
	return h
}

func (h handed) tell() string {
	out := fmt.Sprint(h.v.Capacity, h.v.Free, h.v.Next, h.v.Volumes[:5])
	for _, x := range h.v.Volumes[:5] {
		out += fmt.Sprint(x.Mapped[:2])
	}
	for _, o := range h.ops[:20] {
		out += fmt.Sprint(told(o), o.Data[:cap(o.Data)])
	}
	return out
}

func TestR4WhatIsHandedInStays(t *testing.T) {
	h := handedOf()
	before := h.tell()
	ask := func() {
		for _, o := range h.ops {
			cost.Worst(o)
		}
		cost.All(h.ops)
		cost.Fits(h.v, h.ops)
	}
	ask()
	if h.tell() != before {
		t.Errorf("what was handed in has changed")
	}
	h.ops[7].To = 1
	before = h.tell()
	ask()
	if h.tell() != before {
		t.Errorf("what was handed in has changed beside an error")
	}
}

// What becomes of the list of a call changes nothing of the next one.
func TestR4WhatIsHandedInIsNotKept(t *testing.T) {
	ops := some()
	want := 4 + 36 + 5 + 3 + 4
	checkAll(t, ops, want)
	for i := range ops {
		ops[i] = resize("z", 64)
	}
	checkAll(t, some(), want)
	checkAll(t, ops, 2*len(ops))
	checkAll(t, some(), want)
}

func TestR5AskedAgain(t *testing.T) {
	var group sync.WaitGroup
	for range 4 {
		group.Add(1)
		go func() {
			defer group.Done()
			for range 50 {
				check(t, discard("a", 1, 8191), 5)
				checkNone(t, api.Op{Kind: 12}, api.ErrCostKind)
				checkNoAll(t, list(resize("a", 10), create("A", 1), api.Op{}), api.ErrActName)
				checkAll(t, some(), 52)
				checkFits(t, 52, some(), true)
				checkFits(t, 51, some(), false)
			}
		}()
	}
	group.Wait()
}

// Of a view only what is free is asked: it may be any.
func TestP26_3ViewsThatMayNotBe(t *testing.T) {
	for _, v := range []api.View{
		{Free: 52}, {Capacity: -1, Free: 52, Next: -1}, {Capacity: 10, Free: 52, Next: 1 << 31},
		{Free: 52, Volumes: []api.Volume{{Name: "A", Size: -1, Mapped: []api.Range{{From: 5, To: 1}}}, {Name: "A"}}},
	} {
		if fits, e := cost.Fits(v, some()); !fits || e != api.OK {
			t.Errorf("Fits(%v) = %v, %d", v, fits, e)
		}
		v.Free--
		if fits, e := cost.Fits(v, some()); fits || e != api.OK {
			t.Errorf("Fits(%v) = %v, %d", v, fits, e)
		}
	}
}
