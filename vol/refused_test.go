package vol_test

import (
	"bytes"
	"fmt"
	"math"
	"slices"
	"strings"
	"testing"

	"cistern/api"
	"cistern/field"
	"cistern/pool"
	"cistern/vol"
)

// wrong gives operations that are refused over a used pool: for each error of chapter 10 one and more.
func wrong() map[api.Errno][]api.Op {
	return map[api.Errno][]api.Op{
		api.ErrActKind:     {{}, {Kind: 12}, {Kind: -1, Name: "A"}, {Kind: math.MaxInt}, {Kind: math.MinInt}},
		api.ErrActForm:     {{Kind: 6, Name: "c", To: 1}, {Kind: 1, Name: "b", To: 5, From: 1}, {Kind: 11, Name: "A", To: 301}, {Kind: 9, Name: "a", Data: full(1)}},
		api.ErrActName:     {create("A", 0), create("", 5), rename("a", "A"), snap(strings.Repeat("a", 32), "zz"), write("-", 0, nil)},
		api.ErrActData:     {write("a", 0, nil), write("zz", -1, full(1)[:511]), write("a", 0, append(full(1), 1))},
		api.ErrActUnknown:  {remove("zz"), snap("a", "zz"), restore("a", "zz"), resize("zz", 0), write("zz", -1, full(1)), fill("zz", 0, 99)},
		api.ErrActTaken:    {create("a", 0), rename("a", "s"), rename("a", "a"), rename("p", "a"), clone("s", "p")},
		api.ErrActSize:     {create("n", 0), create("n", 262145), resize("p", -1), resize("a", 262145), extend(300), extend(262145), extend(0)},
		api.ErrActRange:    {write("a", 5000, full(1)), write("p", -1, full(1)), discard("a", 0, 5001), discard("a", 2, 1), fill("a", 0, 33), fill("p", 0, 21)},
		api.ErrActPartial:  {fill("p", 0, 20), clone("n", "p"), restore("a", "p"), restore("p", "a"), write("p", 3, full(1)), rename("p", "n"), resize("p", 20)},
		api.ErrActChildren: {remove("a")},
		api.ErrPoolSize:    {extend(337), extend(262144)},
	}
}

// With each error nothing is changed, neither on the disk nor in what is told.
func TestP11_1WhatIsRefusedChangesNothing(t *testing.T) {
	b := used(t)
	for want, ops := range wrong() {
		for _, o := range ops {
			b.checkRefused(o, want)
		}
	}
	b.do(snap("n", "s"))
	b.take(0)
	for _, o := range []api.Op{write("e", 0, full(1)), write("a", 0, full(1)), fill("s", 2, 3), discard("s", 1, 2), resize("s", 65)} {
		b.checkRefused(o, api.ErrSpaceFull)
	}
}

// 64 volumes, and one more; then the last number that there is.
func TestP11_1WhereTheCatalogHasNoRoom(t *testing.T) {
	b := made(t, 20, 0)
	b.do(create("v0", 3))
	for i := 1; i < 64; i++ {
		b.do(snap(fmt.Sprintf("v%d", i), "v0"))
	}
	for _, o := range []api.Op{create("z", 3), snap("z", "v0"), clone("z", "v9")} {
		b.checkRefused(o, api.ErrCatalogFull)
	}
	b.checkRefused(create("z", 0), api.ErrActSize)
	b.do(remove("v63"), clone("z", "v1"))
	b.checkRefused(create("y", 3), api.ErrCatalogFull)
	b.do(remove("z"))
	b.lastIDs(1 << 30)
	b.do(clone("z", "v1"), remove("z"))
	for _, o := range []api.Op{create("z", 3), snap("z", "v0"), clone("z", "v9")} {
		b.checkRefused(o, api.ErrCatalogIDs)
	}
	b.checkRefused(create("z", 0), api.ErrActSize)
}

// lastIDs says that of the catalog's numbers those from next on are left. No calls come to it in a test's time.
func (b *bench) lastIDs(next int) {
	b.t.Helper()
	const mark = "cistern's volumes"
	head := append([]byte{byte(len(mark))}, mark...)
	head = append(head, 0)
	x := b.begin()
	blocks, _ := b.d.Blocks()
	for at := range blocks {
		page, e := x.Read(at)
		if e != api.OK || !bytes.HasPrefix(page, head) {
			continue
		}
		for i := range 4 {
			page[len(head)+i] = byte(next >> (8 * i))
		}
		if e := x.Write(at, page); e != api.OK {
			b.t.Fatalf("Write(%d) = %d", at, e)
		}
	}
	b.commit(x)
	if n := b.view().Next; n != next {
		b.t.Fatalf("the next ID is %d; want %d", n, next)
	}
}

// lastSeqs gives the same pool behind so many transactions that of the journal's numbers just so many are left. No calls come
// to it in a test's time.
func (b *bench) lastSeqs(left int) *bench {
	b.t.Helper()
	b.again()
	image := b.crashed(nil)
	const seqFrom = 6
	changed := 0
	for at := 0; at < len(image); at += 512 {
		kind, life, body, e := field.Unstamp(image[at : at+512])
		if e != api.OK || kind != 2 || len(body) != seqFrom+8 {
			continue
		}
		seq, e := field.Pack(api.Field{Width: 8, Value: api.MaxSeq - left})
		if e != api.OK {
			b.t.Fatalf("Pack = %d", e)
		}
		block, e := field.Stamp(kind, life, append(body[:seqFrom], seq...))
		if e != api.OK {
			b.t.Fatalf("Stamp = %d", e)
		}
		copy(image[at:], block)
		changed++
	}
	if changed == 0 {
		b.t.Fatalf("no head of a journal is found")
	}
	return found(b.t, diskOf(b.t, image))
}

// What Commit is refused for goes up, and the pool is as it was; what writes nothing is done all the same.
func TestP11_1WhatCommitAnswersGoesUp(t *testing.T) {
	b := used(t).lastSeqs(2)
	b.do(write("a", 0, full(77)), create("n", 5))
	for _, o := range allKinds() {
		switch o.Name {
		case "e", "n", "z":
			continue
		}
		if o.Kind == api.OpRestore && o.Name == o.Other || o.Kind == api.OpRename {
			continue
		}
		b.checkRefused(o, api.ErrJournalSeq)
	}
	b.checkRefused(create("A", 0), api.ErrActName)
	b.do(restore("a", "a"), discard("e", 0, 50))
	b.checkRead("a", 0, 77)
	b.checkMapped("n")
}

// checkAll asks all calls, with arguments that are good and bad, and holds that each is refused.
func checkAll(t *testing.T, p *pool.Pool, want api.Errno) {
	t.Helper()
	checkDo(t, p, want)
	for _, name := range []string{"", "A", "zz", "a", "p"} {
		for _, l := range []int{-1, 0, 5000} {
			if data, e := vol.Read(p, name, l); len(data) != 0 || e != want {
				t.Errorf("Read(%q, %d) = %d bytes, %d; want none, %d", name, l, len(data), e, want)
			}
		}
		if ranges, e := vol.Mapped(p, name); len(ranges) != 0 || e != want {
			t.Errorf("Mapped(%q) = %v, %d; want none, %d", name, ranges, e, want)
		}
	}
	if v, e := vol.View(p); v.Capacity != 0 || v.Free != 0 || v.Next != 0 || len(v.Volumes) != 0 || e != want {
		t.Errorf("View() = %v, %d; want %d", v, e, want)
	}
}

// checkDo asks Do with all sorts of operations, and holds that each is refused.
func checkDo(t *testing.T, p *pool.Pool, want api.Errno) {
	t.Helper()
	ops := allKinds()
	for _, more := range wrong() {
		ops = append(ops, more...)
	}
	for _, o := range ops {
		if e := vol.Do(p, o); e != want {
			t.Errorf("Do(%s) = %d; want %d", told(o), e, want)
		}
	}
}

func TestR3ANilPool(t *testing.T) {
	checkAll(t, nil, api.ErrNil)
}

// The power is off: that is told ahead of all else, also where a transaction is open and a program is running.
func TestR6ThePowerIsOff(t *testing.T) {
	for _, state := range []string{"idle", "open", "running", "both"} {
		b := used(t)
		if state == "running" || state == "both" {
			b.setSlot(running(remove("a")))
		}
		if state == "open" || state == "both" {
			b.begin()
		}
		n := b.pending()
		b.darken()
		checkAll(t, b.p, api.ErrDiskOff)
		checkAll(t, nil, api.ErrNil)
		if b.pending() != n {
			t.Errorf("calls with the power off have written to the disk")
		}
	}
}

// A transaction is open: that is told ahead of a program that runs, and ahead of all that is wrong with what is handed in.
func TestP11ATransactionIsOpen(t *testing.T) {
	for _, slot := range []api.Slot{{}, running(remove("a"))} {
		b := used(t)
		b.setSlot(slot)
		before := b.image()
		x := b.begin()
		at, e := b.p.Place(200)
		if e != api.OK {
			t.Fatalf("Place(200) = %d", e)
		}
		if e := x.Write(at, full(200)); e != api.OK {
			t.Fatalf("Write = %d", e)
		}
		mark, _ := x.Mark()
		if e := x.Write(at, full(201)); e != api.OK {
			t.Fatalf("Write = %d", e)
		}
		checkAll(t, b.p, api.ErrTxnOpen)
		// It is open still, and as it was: with what it has written, and with its marks.
		if data, e := x.Read(at); !bytes.Equal(data, full(201)) || e != api.OK {
			t.Errorf("behind the calls Read of the open transaction = %.1q, %d", data, e)
		}
		if e := x.Back(mark); e != api.OK {
			t.Errorf("Back(%d) = %d", mark, e)
		}
		if n, e := x.Mark(); n != mark+1 || e != api.OK {
			t.Errorf("behind the calls Mark() = %d, %d; want %d", n, e, mark+1)
		}
		if data, e := x.Read(at); !bytes.Equal(data, full(200)) || e != api.OK {
			t.Errorf("behind Back Read of the open transaction = %.1q, %d", data, e)
		}
		if b.image() != before {
			t.Errorf("calls with a transaction open have written to the disk")
		}
		b.commit(x)
		x = b.begin()
		if data, e := x.Read(at); !bytes.Equal(data, full(200)) || e != api.OK {
			t.Errorf("behind its commit Read = %.1q, %d", data, e)
		}
		if e := x.Abort(); e != api.OK {
			t.Errorf("Abort() = %d", e)
		}
		b.view()
	}
}

// slots gives a slot of each state, and for each whether a program is running.
func slots() []struct {
	api.Slot
	busy bool
} {
	many := make([]api.Op, 120)
	for i := range many {
		many[i] = rename("abcdefghijklmnopqrstuvwxyz.1234", fmt.Sprintf("abcdefghijklmnopqrstuvwxyz.%d", i))
	}
	return []struct {
		api.Slot
		busy bool
	}{
		{api.Slot{}, false},
		{running(remove("a")), true},
		{api.Slot{State: api.SlotRunning, Counter: 119, Ops: many}, true},
		{api.Slot{State: api.SlotRunning, Counter: 0, Ops: many}, true},
		{api.Slot{State: api.SlotDone, Counter: 1, Ops: []api.Op{remove("a")}}, false},
		{api.Slot{State: api.SlotDone, Counter: 120, Ops: many}, false},
		{api.Slot{State: api.SlotDone}, false},
		{api.Slot{State: api.SlotAborted, Counter: 0, Code: 64, Ops: []api.Op{remove("a")}}, false},
		{api.Slot{State: api.SlotAborted, Counter: 50, Code: 999, Ops: many}, false},
	}
}

// While a program is running no operation is done, and all else is told; in each other state both.
func TestP11_1WhileAProgramIsRunning(t *testing.T) {
	for _, s := range slots() {
		for _, o := range allKinds() {
			b := used(t)
			b.setSlot(s.Slot)
			if !s.busy {
				b.do(o)
				continue
			}
			b.checkRefused(o, api.ErrVolBusy)
		}
		b := used(t)
		b.setSlot(s.Slot)
		for want, ops := range wrong() {
			if s.busy {
				want = api.ErrVolBusy
			}
			for _, o := range ops {
				b.checkRefused(o, want)
			}
		}
		b.checkTold()
	}
}

// checkTold holds what a used pool tells.
func (b *bench) checkTold() {
	b.t.Helper()
	b.checkRead("a", 1, 5)
	b.checkRead("s", 1, 2)
	b.checkRead("c", 0, 0)
	b.checkNoRead("p", 3, api.ErrActPartial)
	b.checkNoRead("A", 3, api.ErrActName)
	b.checkNoRead("zz", 3, api.ErrActUnknown)
	b.checkNoRead("a", 5000, api.ErrActRange)
	b.checkMapped("c", api.Range{From: 1, To: 2}, api.Range{From: 64, To: 65}, api.Range{From: 70, To: 71}, api.Range{From: 4999, To: 5000})
	b.checkMapped("p", api.Range{From: 3, To: 4}, api.Range{From: 5, To: 6})
	b.checkNotMapped("zz", api.ErrActUnknown)
	v := b.view()
	var names []string
	for _, volume := range v.Volumes {
		names = append(names, volume.Name)
	}
	if v.Capacity != 300 || v.Next != 6 || !slices.Equal(names, []string{"a", "c", "e", "p", "s"}) {
		b.t.Errorf("View() = %v", v)
	}
}

// The slot is asked as it was committed last: a program that has come, gone on or gone is seen at once.
func TestP11_1ProgramsThatComeAndGo(t *testing.T) {
	b := used(t)
	for i := range 4 {
		b.do(write("a", i, full(byte(i))))
		b.setSlot(running(remove("a"), remove("b")))
		b.checkRefused(write("a", i, full(99)), api.ErrVolBusy)
		b.setSlot(api.Slot{State: api.SlotRunning, Counter: 1, Ops: []api.Op{remove("a"), remove("b")}})
		b.checkRefused(write("a", i, full(99)), api.ErrVolBusy)
		x := b.begin()
		if e := b.p.SetSlot(x, api.Slot{}); e != api.OK {
			t.Fatalf("SetSlot = %d", e)
		}
		x.Abort()
		b.checkRefused(write("a", i, full(99)), api.ErrVolBusy)
		b.again()
		b.checkRefused(write("a", i, full(99)), api.ErrVolBusy)
		b.checkRead("a", i, byte(i))
		b.setSlot(slots()[4+i%2].Slot)
	}
	// An operation leaves the slot as it is.
	want := slots()[8].Slot
	b.setSlot(want)
	b.do(write("a", 3, full(4)), create("n", 9), extend(336))
	x := b.begin()
	if got, e := b.p.Slot(x); fmt.Sprint(got) != fmt.Sprint(want) || e != api.OK {
		t.Errorf("behind operations Slot() = %v, %d; want %v", got, e, want)
	}
}

// Calls that only tell something write nothing, and no power goes off in them.
func TestR5CallsThatOnlyTell(t *testing.T) {
	b := used(t)
	before := b.image()
	b.d.Fuse(0)
	b.checkTold()
	for want, ops := range wrong() {
		for _, o := range ops {
			b.check(o, want)
		}
	}
	if !b.d.On() || b.image() != before {
		t.Errorf("calls that only tell something have written to the disk")
	}
}

func TestR4WhatIsHandedInIsNotKept(t *testing.T) {
	b := used(t)
	data := append(make([]byte, 0, 1024), full(77)...)
	spare := data[:1024]
	for i := range 512 {
		spare[512+i] = 88
	}
	b.do(write("a", 3, data))
	b.check(write("p", 3, data), api.ErrActPartial)
	if !bytes.Equal(spare[:512], full(77)) || !bytes.Equal(spare[512:], full(88)) {
		t.Errorf("Do has changed what was handed in")
	}
	for i := range spare {
		spare[i] = 99
	}
	b.checkRead("a", 3, 77)
	b.again()
	b.checkRead("a", 3, 77)
}

// Whatever is handed out is asked twice, and written over in between.
func TestR4WhatIsHandedOutIsNew(t *testing.T) {
	b := used(t)
	before := b.image()
	for _, l := range []int{0, 2, 64, 4999} {
		first := b.read("a", l)
		want := bytes.Clone(first)
		overwrite(first[:cap(first)], 99)
		if again := b.read("a", l); !bytes.Equal(again, want) {
			t.Errorf("who writes into what Read(a, %d) gave changes what it gives later", l)
		}
	}
	for _, name := range []string{"a", "c", "p"} {
		first := b.mapped(name)
		want := slices.Clone(first)
		overwrite(first[:cap(first)], api.Range{From: 9, To: 8})
		b.checkMapped(name, want...)
	}
	first := b.view()
	want := fmt.Sprint(first)
	for _, v := range first.Volumes {
		overwrite(v.Mapped[:cap(v.Mapped)], api.Range{From: 9, To: 8})
	}
	overwrite(first.Volumes[:cap(first.Volumes)], api.Volume{Name: "overwritten"})
	if got := fmt.Sprint(b.view()); got != want {
		t.Errorf("who writes into a view changes the next one: %s; want %s", got, want)
	}
	if b.image() != before {
		t.Errorf("who writes into what was handed out changes the disk")
	}
	// No two lists of one view share any.
	lists := b.view().Volumes
	for i := range lists {
		overwrite(lists[i].Mapped[:cap(lists[i].Mapped)], api.Range{From: i, To: -i})
	}
	for i, v := range lists {
		for _, r := range v.Mapped {
			if r != (api.Range{From: i, To: -i}) {
				t.Errorf("two lists of one view share some memory")
			}
		}
	}
}

func overwrite[T any](list []T, with T) {
	for i := range list {
		list[i] = with
	}
}

// Two pools in turns have nothing to do with each other.
func TestR5TwoPools(t *testing.T) {
	one, two := newWorld(t, 80, 10), newWorld(t, 50, 10)
	script := noise(8*150, 17)
	for n := 0; n < len(script) && !t.Failed(); n += 8 {
		w := one
		if script[n+7]%2 == 1 {
			w = two
		}
		w.step(w.opOf(script[n:]))
	}
	one.checkAll()
	two.checkAll()
	x := one.begin()
	two.step(create("more", 5))
	if e := vol.Do(one.p, create("more", 5)); e != api.ErrTxnOpen {
		t.Errorf("Do with a transaction open = %d", e)
	}
	x.Abort()
	one.setSlot(running(remove("a")))
	two.step(write("more", 0, full(1)))
	one.check(create("more", 5), api.ErrVolBusy)
	one.setSlot(api.Slot{})
	two.darken()
	one.step(create("more", 5))
	one.checkAll()
	checkAll(t, two.p, api.ErrDiskOff)
}
