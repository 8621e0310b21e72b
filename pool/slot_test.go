package pool_test

import (
	"bytes"
	"fmt"
	"math"
	"slices"
	"strings"
	"testing"

	"cistern/api"
)

func slotOf(state int, counter int, code api.Errno, ops ...api.Op) api.Slot {
	return api.Slot{State: state, Counter: counter, Code: code, Ops: ops}
}

func deletes(count int) []api.Op {
	return slices.Repeat([]api.Op{{Kind: api.OpDelete, Name: "a"}}, count)
}

// greatest gives a slot of that state that is as great as one may be.
func greatest(state int) api.Slot {
	text := strings.Repeat("\xff", 31)
	ops := slices.Repeat([]api.Op{{Kind: api.OpFill, Name: text, Other: text, From: 1 << 40, To: 1 << 40}}, 120)
	switch state {
	case api.SlotDone:
		return slotOf(state, 120, api.OK, ops...)
	case api.SlotAborted:
		return slotOf(state, 119, 999, ops...)
	}
	return slotOf(state, 119, api.OK, ops...)
}

// checkBoth holds that SetSlot takes a slot or refuses it, and that Slot tells the one that stands then.
func (b *bench) checkBoth(s api.Slot, want api.Errno) {
	b.t.Helper()
	before := b.slot()
	b.checkSetSlot(s, want)
	if want == api.OK {
		before = s
	}
	b.checkSlot(before)
}

func TestP9_8SlotsOfEachState(t *testing.T) {
	b := made(t, 300, 20)
	for _, count := range []int{0, 1, 2, 119, 120, 121} {
		for _, state := range []int{math.MinInt, -1, 0, 1, 2, 3, 4, 256, 257, math.MaxInt} {
			for _, counter := range []int{math.MinInt, -1, 0, 1, count - 1, count, count + 1, 255, 256, math.MaxInt} {
				for _, code := range []api.Errno{math.MinInt, -1, 0, 1, 999, 1000, 65536, 65537, math.MaxInt} {
					s := slotOf(state, counter, code, deletes(count)...)
					b.checkBoth(s, errnoOf(mayBe(s), api.OK, api.ErrPoolSlot))
				}
			}
		}
	}
}

// mayBe is the chapter's rule of slots, for those whose operations may be.
func mayBe(s api.Slot) bool {
	count := len(s.Ops)
	if count > 120 {
		return false
	}
	switch s.State {
	case 0:
		return s.Counter == 0 && s.Code == 0 && count == 0
	case 1:
		return s.Counter >= 0 && s.Counter < count && s.Code == 0
	case 2:
		return s.Counter == count && s.Code == 0
	case 3:
		return s.Counter >= 0 && s.Counter < count && s.Code >= 1 && s.Code <= 999
	}
	return false
}

func TestP9_8OperationsAtTheirEdges(t *testing.T) {
	long := strings.Repeat("z", 31)
	cases := []struct {
		o    api.Op
		want api.Errno
	}{
		{api.Op{Kind: 1, Name: long}, api.OK},
		{api.Op{Kind: 1, Other: long}, api.OK},
		{api.Op{Kind: 1, Name: long + "z"}, api.ErrPoolSlot},
		{api.Op{Kind: 1, Other: long + "z"}, api.ErrPoolSlot},
		{api.Op{Kind: 1, Name: strings.Repeat(long, 9)}, api.ErrPoolSlot},
		{api.Op{Kind: 1, Name: "\x00\xff \n/A", Other: "\x00"}, api.OK},
		{api.Op{Kind: 1, Data: []byte{}}, api.OK},
		{api.Op{Kind: 1, Data: []byte{0}}, api.ErrPoolSlot},
		{api.Op{Kind: 1, Data: full(1)}, api.ErrPoolSlot},
	}
	for kind := -1; kind <= 13; kind++ {
		want := errnoOf(kind >= 1 && kind <= 10 && kind != 8, api.OK, api.ErrPoolSlot)
		cases = append(cases, struct {
			o    api.Op
			want api.Errno
		}{api.Op{Kind: kind}, want})
	}
	for _, kind := range []int{math.MinInt, 257, 258, math.MaxInt} {
		cases = append(cases, struct {
			o    api.Op
			want api.Errno
		}{api.Op{Kind: kind}, api.ErrPoolSlot})
	}
	for _, n := range []int{math.MinInt, -1, 0, 1, 1 << 39, 1<<40 - 1, 1 << 40, 1<<40 + 1, 1 << 48, math.MaxInt} {
		want := errnoOf(n >= 0 && n <= 1<<40, api.OK, api.ErrPoolSlot)
		for _, o := range []api.Op{{Kind: 9, From: n}, {Kind: 9, To: n}, {Kind: 2, From: n, To: n}} {
			cases = append(cases, struct {
				o    api.Op
				want api.Errno
			}{o, want})
		}
	}
	b := made(t, 300, 20)
	for i, c := range cases {
		t.Run(fmt.Sprint(i), func(t *testing.T) {
			b.t = t
			b.checkBoth(slotOf(api.SlotRunning, 0, 0, c.o), c.want)
			// It is the same wherever it stands.
			for _, at := range []int{0, 60, 119} {
				ops := deletes(120)
				ops[at] = c.o
				b.checkBoth(slotOf(api.SlotDone, 120, 0, ops...), c.want)
			}
		})
	}
	b.t = t
}

func TestP9_8AnyBytesInNames(t *testing.T) {
	b := made(t, 300, 20)
	for c := range 256 {
		for _, length := range []int{1, 30, 31} {
			text := strings.Repeat(string([]byte{byte(c)}), length)
			b.checkBoth(slotOf(api.SlotRunning, 0, 0, api.Op{Kind: 5, Name: text}, api.Op{Kind: 5, Other: text}), api.OK)
		}
	}
}

// Slots of every number of operations, each behind a greater and a lesser one: what stood there is gone.
func TestP9_7SlotsOfEverySize(t *testing.T) {
	b := made(t, 300, 20)
	for count := range 121 {
		b.checkBoth(greatest(api.SlotRunning), api.OK)
		b.checkBoth(slotOf(api.SlotDone, count, 0, manyOps(count, uint32(count))...), api.OK)
		b.checkBoth(api.Slot{}, api.OK)
		b.checkBoth(slotOf(api.SlotDone, 120-count, 0, manyOps(120-count, uint32(count))...), api.OK)
		if count%10 == 0 {
			before := b.slot()
			b.commit()
			b.checkSlot(before)
			b.seen().checkSlot(before)
		}
	}
}

// manyOps gives operations of all kinds with texts of all lengths.
func manyOps(count int, seed uint32) []api.Op {
	chance := noise(count*80, seed)
	kinds := []int{1, 2, 3, 4, 5, 6, 7, 9, 10}
	ops := make([]api.Op, count)
	for i := range ops {
		c := chance[i*80:]
		ops[i] = api.Op{
			Kind:  kinds[int(c[0])%len(kinds)],
			Name:  string(c[1 : 1+int(c[70])%32]),
			Other: string(c[35 : 35+int(c[71])%32]),
			From:  int(c[72]) << (int(c[73]) % 33),
			To:    1<<40 - int(c[74])<<(int(c[75])%33),
		}
	}
	return ops
}

func TestP9_8SlotsWithinTransactions(t *testing.T) {
	b := made(t, 300, 20)
	one, two, three := greatest(api.SlotRunning), slotOf(api.SlotDone, 2, 0, deletes(2)...), greatest(api.SlotAborted)
	b.checkBoth(one, api.OK)
	b.lasting().checkSlot(api.Slot{})
	m := b.mark()
	b.checkBoth(two, api.OK)
	n := b.mark()
	b.checkBoth(three, api.OK)
	b.back(n)
	b.checkSlot(two)
	b.checkBoth(api.Slot{}, api.OK)
	b.back(m)
	b.checkSlot(one)
	b.commit()
	b.checkSlot(one)
	b.seen().checkSlot(one)
	b.checkBoth(three, api.OK)
	b.abort()
	b.checkSlot(one)
	b.checkBoth(two, api.OK)
	b.commit()
	b.sync()
	b.lasting().checkSlot(two)
}

// A refused SetSlot leaves a transaction without writes.
func TestR2ARefusedSetSlotWritesNothing(t *testing.T) {
	b := made(t, 300, 20)
	for _, stands := range []api.Slot{{}, greatest(api.SlotRunning), slotOf(api.SlotDone, 1, 0, deletes(1)...)} {
		b.checkBoth(stands, api.OK)
		b.commit()
		for _, s := range []api.Slot{{State: 4}, {Counter: 1}, slotOf(1, 0, 0), slotOf(1, 120, 0, deletes(120)...), slotOf(2, 121, 0, deletes(121)...), slotOf(3, 0, 0, deletes(1)...), slotOf(1, 0, 0, append(deletes(119), api.Op{Kind: 8})...)} {
			b.checkSetSlot(s, api.ErrPoolSlot)
			b.checkUnwritten("a refused SetSlot")
			b.checkSlot(stands)
		}
		b.slot()
		b.checkUnwritten("Slot")
	}
}

// A counter alone that goes on costs little, however long the program is.
func TestP9_8ACounterThatGoesOnWritesOneBlock(t *testing.T) {
	b := made(t, 300, 20)
	s := greatest(api.SlotRunning)
	b.checkBoth(s, api.OK)
	b.commit()
	b.sync()
	s.Counter = 7
	b.checkBoth(s, api.OK)
	b.commit()
	if n := pendingOf(t, b.d); n > 2 {
		t.Errorf("another counter writes %d blocks of the log", n)
	}
}

func TestR4WhatIsHandedToSetSlotIsNotKept(t *testing.T) {
	b := made(t, 300, 20)
	ops := append(make([]api.Op, 0, 10), deletes(3)...)
	spare := ops[:10]
	for i := 3; i < 10; i++ {
		spare[i] = api.Op{Kind: 99, Name: "spare"}
	}
	b.checkSetSlot(slotOf(api.SlotDone, 3, 0, ops...), api.OK)
	want := slotOf(api.SlotDone, 3, 0, deletes(3)...)
	for i, o := range spare {
		if i < 3 && shown(o) != shown(want.Ops[0]) || i >= 3 && (o.Kind != 99 || o.Name != "spare") {
			t.Errorf("SetSlot has changed what it was handed: operation %d is %s", i, shown(o))
		}
		spare[i] = api.Op{Kind: 1, Name: "other"}
	}
	b.checkSlot(want)
	b.commit()
	b.checkSlot(want)
}

func TestR4WhatSlotHandsOutIsNew(t *testing.T) {
	b := made(t, 300, 20)
	b.checkSetSlot(greatest(api.SlotDone), api.OK)
	one, two := b.slot(), b.slot()
	for i := range one.Ops[:cap(one.Ops)] {
		one.Ops[:cap(one.Ops)][i] = api.Op{Name: "spoilt"}
	}
	_ = append(one.Ops[:1], api.Op{Name: "spoilt"})
	if shown(two) != shown(greatest(api.SlotDone)) {
		t.Errorf("what was handed out before is changed")
	}
	b.checkSlot(greatest(api.SlotDone))
	for _, o := range two.Ops {
		if o.Data != nil && !bytes.Equal(o.Data, nil) {
			t.Errorf("an operation of the slot has data")
		}
	}
	b.commit()
	b.checkSlot(greatest(api.SlotDone))
}
