package engine_test

import (
	"bytes"
	"crypto/sha256"
	"fmt"
	"strings"
	"testing"

	"cistern/api"
	"cistern/disk"
	"cistern/engine"
	"cistern/pool"
	"cistern/txn"
	"cistern/vol"
)

// full gives a block that is one byte all through.
func full(name byte) []byte { return bytes.Repeat([]byte{name}, 512) }

// noise gives bytes that look like chance and are the same in each run.
func noise(size int, seed uint32) []byte {
	out := make([]byte, size)
	for i := range out {
		seed = seed*1664525 + 1013904223
		out[i] = byte(seed >> 24)
	}
	return out
}

func create(name string, to int) api.Op { return api.Op{Kind: api.OpCreate, Name: name, To: to} }

func snap(name string, other string) api.Op {
	return api.Op{Kind: api.OpSnap, Name: name, Other: other}
}

func clone(name string, other string) api.Op {
	return api.Op{Kind: api.OpClone, Name: name, Other: other}
}

func resize(name string, to int) api.Op { return api.Op{Kind: api.OpResize, Name: name, To: to} }

func rename(name string, other string) api.Op {
	return api.Op{Kind: api.OpRename, Name: name, Other: other}
}

func remove(name string) api.Op { return api.Op{Kind: api.OpDelete, Name: name} }

func restore(name string, other string) api.Op {
	return api.Op{Kind: api.OpRestore, Name: name, Other: other}
}

func write(name string, from int, data []byte) api.Op {
	return api.Op{Kind: api.OpWrite, Name: name, From: from, Data: data}
}

func discard(name string, from int, to int) api.Op {
	return api.Op{Kind: api.OpDiscard, Name: name, From: from, To: to}
}

func fill(name string, from int, to int) api.Op {
	return api.Op{Kind: api.OpFill, Name: name, From: from, To: to}
}

func extend(to int) api.Op { return api.Op{Kind: api.OpExtend, To: to} }

// told tells an operation without its data.
func told(o api.Op) string {
	return fmt.Sprintf("kind %d, %q, %q, %d, %d, %d bytes", o.Kind, o.Name, o.Other, o.From, o.To, len(o.Data))
}

// program is operations as a list.
func program(ops ...api.Op) []api.Op { return ops }

// many gives so many operations, each of which restores a volume that is there: so nothing is changed by them.
func many(count int) []api.Op {
	var ops []api.Op
	for range count {
		ops = append(ops, restore("a", "a"))
	}
	return ops
}

func running(counter int, ops ...api.Op) api.Slot {
	return api.Slot{State: api.SlotRunning, Counter: counter, Ops: ops}
}

func ended(ops ...api.Op) api.Slot {
	return api.Slot{State: api.SlotDone, Counter: len(ops), Ops: ops}
}

func aborted(counter int, code api.Errno, ops ...api.Op) api.Slot {
	return api.Slot{State: api.SlotAborted, Counter: counter, Code: code, Ops: ops}
}

// shown tells a slot.
func shown(s api.Slot) string {
	if len(s.Ops) > 4 {
		return fmt.Sprintf("state %d, counter %d, code %d, %d operations of sum %x", s.State, s.Counter, s.Code, len(s.Ops), sha256.Sum256(fmt.Append(nil, s.Ops)))
	}
	return fmt.Sprintf("state %d, counter %d, code %d, %v", s.State, s.Counter, s.Code, s.Ops)
}

// bench is a pool and its disk.
type bench struct {
	t *testing.T
	d *disk.Disk
	p *pool.Pool
}

// made gives a new pool of a capacity, on a disk that holds so many more pool blocks.
func made(t *testing.T, capacity int, more int) *bench {
	t.Helper()
	blocks, e := pool.Needed(capacity + more)
	if e != api.OK {
		t.Fatalf("Needed(%d) = %d", capacity+more, e)
	}
	d, e := disk.New(blocks)
	if e != api.OK {
		t.Fatalf("disk.New(%d) = %d", blocks, e)
	}
	if e := pool.Format(d, capacity); e != api.OK {
		t.Fatalf("Format(d, %d) = %d", capacity, e)
	}
	return found(t, d)
}

// found gives the pool that is found on a disk.
func found(t *testing.T, d *disk.Disk) *bench {
	t.Helper()
	p, e := pool.Open(d)
	if e != api.OK {
		t.Fatalf("Open(d) = %d", e)
	}
	return &bench{t: t, d: d, p: p}
}

func diskOf(t *testing.T, image []byte) *disk.Disk {
	t.Helper()
	d, e := disk.Open(image)
	if e != api.OK {
		t.Fatalf("disk.Open = %d", e)
	}
	return d
}

// again opens the pool anew over the same disk.
func (b *bench) again() {
	b.t.Helper()
	*b = *found(b.t, b.d)
}

// twin gives another pool that is as this one.
func (b *bench) twin() *bench {
	b.t.Helper()
	b.sync()
	return b.lasting()
}

func (b *bench) begin() *txn.Txn {
	b.t.Helper()
	x, e := b.p.Begin()
	if e != api.OK {
		b.t.Fatalf("Begin() = %d", e)
	}
	return x
}

func (b *bench) commit(x *txn.Txn) {
	b.t.Helper()
	if e := x.Commit(); e != api.OK {
		b.t.Fatalf("Commit() = %d", e)
	}
}

func (b *bench) sync() {
	b.t.Helper()
	if e := b.p.Sync(); e != api.OK {
		b.t.Fatalf("Sync() = %d", e)
	}
}

// checkClosed holds that no transaction is open.
func (b *bench) checkClosed(what string) {
	b.t.Helper()
	x, e := b.p.Begin()
	if e != api.OK {
		b.t.Fatalf("behind %s Begin() = %d", what, e)
	}
	if e := x.Abort(); e != api.OK {
		b.t.Fatalf("Abort() = %d", e)
	}
}

// darken turns the power off.
func (b *bench) darken() {
	b.t.Helper()
	b.d.Fuse(0)
	if e := b.d.Flush(); e != api.ErrDiskOff {
		b.t.Fatalf("Flush() with a fuse of 0 = %d", e)
	}
}

func (b *bench) pending() int {
	b.t.Helper()
	pending, e := b.d.Pending()
	if e != api.OK {
		b.t.Fatalf("Pending() = %d", e)
	}
	return len(pending)
}

func firstPlaces(n int) []int {
	places := make([]int, n)
	for i := range places {
		places[i] = i
	}
	return places
}

func (b *bench) crashed(keep []int) []byte {
	b.t.Helper()
	image, e := b.d.Crash(keep)
	if e != api.OK {
		b.t.Fatalf("Crash = %d", e)
	}
	return image
}

// image gives all that the disk is seen to hold, and how much of it does not last.
func (b *bench) image() string {
	b.t.Helper()
	n := b.pending()
	return string(b.crashed(firstPlaces(n))) + fmt.Sprint(n)
}

// lasting gives the pool that is found behind a cut now that no pending write survives.
func (b *bench) lasting() *bench {
	b.t.Helper()
	return found(b.t, diskOf(b.t, b.crashed(nil)))
}

// setPartial says of a volume that it is partial.
func (b *bench) setPartial(name string) {
	b.t.Helper()
	x := b.begin()
	v, e := b.p.Catalog().Find(x, name)
	if e != api.OK {
		b.t.Fatalf("Find(t, %q) = %d", name, e)
	}
	v.Partial = true
	if e := b.p.Catalog().Put(x, v); e != api.OK {
		b.t.Fatalf("Put(t, %v) = %d", v, e)
	}
	b.commit(x)
}

// setSlot lays a slot by the pool's own call.
func (b *bench) setSlot(s api.Slot) {
	b.t.Helper()
	x := b.begin()
	if e := b.p.SetSlot(x, s); e != api.OK {
		b.t.Fatalf("SetSlot(t, %s) = %d", shown(s), e)
	}
	b.commit(x)
}

// take takes pool blocks, up to where so many are free.
func (b *bench) take(left int) {
	b.t.Helper()
	x := b.begin()
	for {
		n, e := b.p.Space().Free(x)
		if e != api.OK {
			b.t.Fatalf("Free(t) = %d", e)
		}
		if n <= left {
			break
		}
		if _, e = b.p.Space().Alloc(x); e != api.OK {
			b.t.Fatalf("Alloc(t) = %d", e)
		}
	}
	b.commit(x)
}

// do does operations by layer 11 that are not refused.
func (b *bench) do(ops ...api.Op) {
	b.t.Helper()
	for _, o := range ops {
		if e := vol.Do(b.p, o); e != api.OK {
			b.t.Fatalf("Do(%s) = %d", told(o), e)
		}
	}
}

func (b *bench) checkDo(o api.Op, want api.Errno) {
	b.t.Helper()
	if e := vol.Do(b.p, o); e != want {
		b.t.Errorf("Do(%s) = %d; want %d", told(o), e, want)
	}
}

func (b *bench) submit(ops ...api.Op) {
	b.t.Helper()
	b.checkSubmit(ops, api.OK)
}

func (b *bench) checkSubmit(ops []api.Op, want api.Errno) {
	b.t.Helper()
	if e := engine.Submit(b.p, ops); e != want {
		b.t.Errorf("Submit of %d operations = %d; want %d", len(ops), e, want)
	}
	b.checkClosed("Submit")
}

func (b *bench) checkClear(want api.Errno) {
	b.t.Helper()
	if e := engine.Clear(b.p); e != want {
		b.t.Errorf("Clear() = %d; want %d", e, want)
	}
	b.checkClosed("Clear")
}

// checkState holds that the slot is this one: State and the pool's own call tell it.
func (b *bench) checkState(want api.Slot) {
	b.t.Helper()
	s, e := engine.State(b.p)
	if shown(s) != shown(want) || e != api.OK {
		b.t.Errorf("State() = %s, %d; want %s", shown(s), e, shown(want))
	}
	b.checkClosed("State")
	x := b.begin()
	if s, e := b.p.Slot(x); shown(s) != shown(want) || e != api.OK {
		b.t.Errorf("the pool's Slot is %s, %d; want %s", shown(s), e, shown(want))
	}
	x.Abort()
}

// checkStep holds that a step gives this slot, which is then the pool's.
func (b *bench) checkStep(want api.Slot) {
	b.t.Helper()
	s, e := engine.Step(b.p)
	if shown(s) != shown(want) || e != api.OK {
		b.t.Errorf("Step() = %s, %d; want %s", shown(s), e, shown(want))
	}
	b.checkClosed("Step")
	b.checkState(want)
}

// checkNoStep holds that a step is refused, and changes nothing.
func (b *bench) checkNoStep(want api.Errno) {
	b.t.Helper()
	before := b.image()
	s, e := engine.Step(b.p)
	if shown(s) != shown(api.Slot{}) || e != want {
		b.t.Errorf("Step() = %s, %d; want none, %d", shown(s), e, want)
	}
	b.checkClosed("Step")
	if b.image() != before {
		b.t.Errorf("a Step that is refused with %d has changed the disk", e)
	}
}

func (b *bench) view() api.View {
	b.t.Helper()
	v, e := vol.View(b.p)
	if e != api.OK {
		b.t.Fatalf("View() = %d", e)
	}
	return v
}

// holds gives what a pool tells by View, and by Read of every block of every volume that can be read.
func (b *bench) holds() string {
	b.t.Helper()
	view := b.view()
	sum := sha256.New()
	for _, v := range view.Volumes {
		for l := 0; l < v.Size && !v.Partial; l++ {
			data, e := vol.Read(b.p, v.Name, l)
			if e != api.OK {
				b.t.Fatalf("Read(%q, %d) = %d", v.Name, l, e)
			}
			sum.Write(data)
		}
	}
	return fmt.Sprintf("%v %x", view, sum.Sum(nil))
}

// tells gives the slot beside.
func (b *bench) tells() string {
	b.t.Helper()
	s, e := engine.State(b.p)
	if e != api.OK {
		b.t.Fatalf("State() = %d", e)
	}
	return b.holds() + " " + shown(s)
}

func TestP17ExamplesInTheirOrder(t *testing.T) {
	b := made(t, 100, 0)
	b.checkState(api.Slot{})
	b.checkNoStep(api.ErrEngineIdle)
	b.checkClear(api.OK)

	ops := program(create("a", 10), fill("a", 0, 3), create("a", 5))
	b.submit(ops...)
	b.checkState(running(0, ops...))

	b.checkStep(running(1, ops...))
	b.checkDo(create("z", 1), api.ErrVolBusy)
	b.checkSubmit(nil, api.ErrEngineBusy)
	b.checkClear(api.ErrEngineBusy)

	b.checkStep(running(2, ops...))
	b.checkStep(aborted(2, api.ErrActTaken, ops...))

	b.checkNoStep(api.ErrEngineIdle)
	b.submit()
	b.checkState(ended())

	b.checkSubmit(program(write("a", 0, full(1))), api.ErrOpProgram)
	b.checkSubmit(make([]api.Op, 121), api.ErrOpMany)
	b.checkState(ended())
	want := api.View{Capacity: 100, Free: 94, Next: 2, Volumes: []api.Volume{{Name: "a", ID: 1, Size: 10, Mapped: []api.Range{{From: 0, To: 3}}}}}
	if got := b.view(); fmt.Sprint(got) != fmt.Sprint(want) {
		t.Errorf("View() = %v; want %v", got, want)
	}
}

// used gives a pool with volumes that share, one of them partial: a (mapped, with children), s and c of it, e (empty), p (partial).
func used(t *testing.T) *bench {
	t.Helper()
	b := made(t, 300, 36)
	b.do(create("a", 130), write("a", 0, full(1)), write("a", 1, full(2)), write("a", 64, full(3)), write("a", 129, full(4)))
	b.do(snap("s", "a"), write("a", 1, full(5)), clone("c", "a"), write("c", 70, full(6)), discard("c", 0, 1))
	b.do(create("e", 50), create("p", 20), write("p", 3, full(7)), write("p", 5, full(8)))
	b.setPartial("p")
	return b
}

// allKinds gives operations of each kind that a program may hold, that are done over a used pool.
func allKinds() []api.Op {
	return []api.Op{
		create("n", 100), snap("n", "a"), clone("n", "s"), resize("a", 65), resize("a", 200), rename("a", "z"), rename("s", "n"),
		remove("c"), remove("p"), remove("e"), restore("a", "s"), restore("s", "c"), restore("c", "e"), restore("e", "a"), restore("a", "a"),
		discard("a", 1, 65), discard("s", 0, 130), discard("c", 0, 71), discard("e", 0, 50), discard("e", 3, 3),
		fill("a", 0, 32), fill("s", 60, 70), fill("c", 90, 122), fill("e", 18, 50), fill("a", 3, 3),
	}
}

// slots gives some of each state, but for running.
func slots() []api.Slot {
	return []api.Slot{
		{}, ended(), ended(remove("a")), ended(many(120)...),
		aborted(0, 1, remove("a")), aborted(3, api.ErrSpaceFull, many(9)...), aborted(119, 999, many(120)...),
	}
}

// longest gives a program of the greatest bytes that there may be.
func longest() []api.Op {
	var ops []api.Op
	for i := range 120 {
		name := fmt.Sprintf("~%s%03d", strings.Repeat("@", 27), i)
		ops = append(ops, rename(name, strings.Repeat("z", 28)+name[28:]))
	}
	return ops
}

func TestP17_1ASubmitLaysTheProgram(t *testing.T) {
	programs := [][]api.Op{
		program(remove("a")), allKinds(), many(119), many(120), longest(),
		{resize("none", 262144), discard("none", 0, 262144), fill("none", 262112, 262144), create("n", 1)},
	}
	for _, old := range slots() {
		for _, ops := range programs {
			b := used(t)
			b.setSlot(old)
			before := b.holds()
			b.submit(ops...)
			b.checkState(running(0, ops...))
			if b.holds() != before {
				t.Errorf("Submit has changed the volumes")
			}
			b.again()
			b.checkState(running(0, ops...))
		}
	}
}

// A program of no operation at all is done at once; nil and an empty list are one.
func TestP17_1NoOperationAtAll(t *testing.T) {
	for _, old := range slots() {
		for _, ops := range [][]api.Op{nil, {}, make([]api.Op, 0, 9)} {
			b := used(t)
			b.setSlot(old)
			b.submit(ops...)
			b.checkSubmit(ops, api.OK)
			b.checkState(ended())
			b.checkNoStep(api.ErrEngineIdle)
			b.do(remove("c"))
		}
	}
}

func TestR1NoDataAndEmptyData(t *testing.T) {
	b := made(t, 20, 0)
	o := create("a", 5)
	o.Data = []byte{}
	b.submit(o)
	b.checkState(running(0, create("a", 5)))
	b.checkStep(ended(create("a", 5)))
}

// unfit gives programs that may not be, with their errors.
func unfit() map[api.Errno][][]api.Op {
	long := append(many(120), api.Op{Kind: 12})
	return map[api.Errno][][]api.Op{
		api.ErrOpMany:    {make([]api.Op, 121), many(121), long, append(program(write("a", 0, full(1))), many(120)...)},
		api.ErrOpProgram: {{write("a", 0, full(1))}, {remove("c"), extend(301)}, {write("A", -1, nil)}, {extend(0), {}}, append(many(119), write("a", 0, full(1)))},
		api.ErrActKind:   {{{}}, {{Kind: 12}}, {remove("c"), {Kind: -1}, extend(301)}, append(many(119), api.Op{Kind: 99})},
		api.ErrActForm:   {{{Kind: 6, Name: "c", To: 1}}, {{Kind: 6, Name: "c", Data: full(1)}}, {remove("c"), {Kind: 1, Name: "A", From: 1}, {}}},
		api.ErrActName:   {{create("A", 0)}, {remove("")}, {snap("n", "A")}, {rename(strings.Repeat("a", 32), "b")}},
		api.ErrActSize:   {{create("n", 0)}, {resize("a", 262145)}, {create("n", -1), create("A", 0)}},
		api.ErrActRange:  {{fill("a", 0, 33)}, {discard("a", 2, 1)}, {discard("a", -1, 1)}, {discard("a", 0, 262145)}, {fill("a", 1<<62, 1<<63-1)}},
	}
}

// What the form of an operation is against leaves the slot as it was.
func TestP17_1ProgramsThatMayNotBe(t *testing.T) {
	for _, old := range slots() {
		b := used(t)
		b.setSlot(old)
		before := b.image()
		for want, programs := range unfit() {
			for _, ops := range programs {
				b.checkSubmit(ops, want)
			}
		}
		b.checkState(old)
		if b.image() != before {
			t.Errorf("a Submit that is refused has changed the disk")
		}
	}
}

// While a program is running no other is taken, whatever it is; nor is it cleared.
func TestP17_1AProgramIsRunning(t *testing.T) {
	for _, slot := range []api.Slot{running(0, remove("c")), running(0, many(120)...), running(119, many(120)...), running(1, remove("c"), remove("e"))} {
		b := used(t)
		b.setSlot(slot)
		before := b.image()
		for _, ops := range [][]api.Op{nil, {remove("c")}, slot.Ops, many(120)} {
			b.checkSubmit(ops, api.ErrEngineBusy)
		}
		for _, programs := range unfit() {
			for _, ops := range programs {
				b.checkSubmit(ops, api.ErrEngineBusy)
			}
		}
		b.checkClear(api.ErrEngineBusy)
		b.checkState(slot)
		if b.image() != before {
			t.Errorf("calls that are refused have changed the disk")
		}
	}
}

// Each operation does by a step what it does by layer 11.
func TestP17_2AStepOfEachKind(t *testing.T) {
	for _, o := range allKinds() {
		b := used(t)
		c := b.twin()
		b.submit(o)
		b.checkStep(ended(o))
		c.do(o)
		if got, want := b.holds(), c.holds(); got != want {
			t.Errorf("behind a step of %s the pool is %s; want %s", told(o), got, want)
		}
		b.checkNoStep(api.ErrEngineIdle)
	}
}

// One operation a step, in their order.
func TestP17_2StepsInTheirOrder(t *testing.T) {
	b := used(t)
	c := b.twin()
	ops := program(create("n", 100), fill("n", 60, 70), snap("m", "n"), discard("n", 64, 66), rename("s", "~s"), resize("m", 65),
		restore("c", "m"), clone("k", "c"), remove("p"), remove("k"))
	b.submit(ops...)
	for i, o := range ops {
		c.do(o)
		if i == len(ops)-1 {
			b.checkStep(ended(ops...))
		} else {
			b.checkStep(running(i+1, ops...))
		}
		if got, want := b.holds(), c.holds(); got != want {
			t.Errorf("behind %d steps the pool is %s; want %s", i+1, got, want)
		}
	}
	b.checkNoStep(api.ErrEngineIdle)
	b.checkState(ended(ops...))
}

// A program of 120, each of which changes nothing but the counter.
func TestP17_2AsManyAsMayBe(t *testing.T) {
	b := used(t)
	before := b.holds()
	b.submit(many(120)...)
	for i := range 119 {
		b.checkStep(running(i+1, many(120)...))
	}
	b.checkStep(ended(many(120)...))
	if b.holds() != before {
		t.Errorf("operations that change nothing have changed the volumes")
	}
}

// refused gives operations that a used pool refuses: for each error of chapter 10 that a slot's operation can have.
func refused() map[api.Errno][]api.Op {
	return map[api.Errno][]api.Op{
		api.ErrActForm:     {{Kind: 6, Name: "c", To: 1}, {Kind: 1, Name: "A", To: 5, From: 1}, {Kind: 9, Name: "a", Other: "c"}},
		api.ErrActName:     {create("A", 0), create("", 5), rename("a", "A"), snap("\xff", "zz"), remove("-")},
		api.ErrActUnknown:  {remove("zz"), snap("a", "zz"), restore("a", "zz"), restore("zz", "a"), resize("zz", 0), fill("zz", 0, 99), clone("n", "m"), rename("zz", "a"), discard("zz", 9, 1)},
		api.ErrActTaken:    {create("a", 0), rename("a", "s"), rename("a", "a"), rename("p", "a"), clone("s", "p"), snap("a", "a")},
		api.ErrActSize:     {create("n", 0), create("n", 262145), resize("p", 0), resize("a", 1<<40)},
		api.ErrActRange:    {discard("a", 0, 131), discard("a", 2, 1), fill("a", 0, 33), fill("p", 0, 21), fill("e", 50, 51)},
		api.ErrActPartial:  {fill("p", 0, 20), clone("n", "p"), snap("n", "p"), restore("a", "p"), restore("p", "a"), rename("p", "n"), resize("p", 20), discard("p", 0, 0)},
		api.ErrActChildren: {remove("a")},
	}
}

// checkAborts holds that a program of three, of which the second is refused, is aborted there, and that nothing of it is done,
// nor of what stands behind it.
func (b *bench) checkAborts(o api.Op, want api.Errno) {
	b.t.Helper()
	ops := program(discard("e", 1, 1), o, remove("e"))
	b.setSlot(running(0, ops...))
	before := b.holds()
	b.checkStep(running(1, ops...))
	b.checkStep(aborted(1, want, ops...))
	if after := b.holds(); after != before {
		b.t.Errorf("a step of %s, which is refused, has changed the pool from %s to %s", told(o), before, after)
	}
	b.checkNoStep(api.ErrEngineIdle)
	b.again()
	b.checkState(aborted(1, want, ops...))
}

func TestP17_2WhatIsRefusedAborts(t *testing.T) {
	b := used(t)
	for want, ops := range refused() {
		for _, o := range ops {
			b.checkAborts(o, want)
		}
	}
}

func TestP17_2NoRoom(t *testing.T) {
	b := used(t)
	b.do(snap("n", "s"))
	b.take(0)
	for _, o := range []api.Op{fill("e", 0, 1), fill("a", 2, 3), fill("s", 2, 3), discard("s", 1, 2), resize("s", 65)} {
		b.checkAborts(o, api.ErrSpaceFull)
	}
	// An operation that a later one makes room for is refused all the same.
	ops := program(fill("e", 0, 1), remove("c"), fill("e", 0, 1))
	b.submit(ops...)
	b.checkStep(aborted(0, api.ErrSpaceFull, ops...))
	b.submit(ops[1:]...)
	b.checkStep(running(1, ops[1:]...))
	b.checkStep(ended(ops[1:]...))
}

// What an operation lets go is free behind its step: each is a transaction of its own.
func TestP17_2WhatIsLetGoIsFreeBehindTheStep(t *testing.T) {
	b := made(t, 8, 0)
	ops := program(create("a", 300), fill("a", 0, 5), discard("a", 0, 300), fill("a", 64, 69), remove("a"), create("a", 9), fill("a", 4, 9), fill("a", 3, 4))
	b.submit(ops...)
	for i := 1; i < len(ops); i++ {
		b.checkStep(running(i, ops...))
	}
	b.checkStep(aborted(7, api.ErrSpaceFull, ops...))
}

func TestP17_2AbortedAtEachPlace(t *testing.T) {
	for n := range 6 {
		b := made(t, 30, 0)
		var ops []api.Op
		for i := range 6 {
			ops = append(ops, create(string(rune('a'+i)), i+1))
		}
		ops[n] = remove("none")
		b.submit(ops...)
		for i := range n {
			b.checkStep(running(i+1, ops...))
		}
		b.checkStep(aborted(n, api.ErrActUnknown, ops...))
		if got := len(b.view().Volumes); got != n {
			t.Errorf("aborted at %d there are %d volumes", n, got)
		}
	}
}

// A slot that is not running has no step.
func TestP17_2NoProgramIsRunning(t *testing.T) {
	for _, slot := range slots() {
		b := used(t)
		b.setSlot(slot)
		b.checkNoStep(api.ErrEngineIdle)
		b.checkNoStep(api.ErrEngineIdle)
		b.checkState(slot)
	}
}

// A running program is gone on with where the slot says that it is, whoever has laid it.
func TestP17_2FromTheCounterOn(t *testing.T) {
	b := used(t)
	ops := program(remove("zz"), remove("zz"), remove("c"), remove("zz"))
	b.setSlot(running(2, ops...))
	b.checkStep(running(3, ops...))
	b.again()
	b.checkStep(aborted(3, api.ErrActUnknown, ops...))
}

func TestP17_3State(t *testing.T) {
	b := used(t)
	for _, slot := range append(slots(), running(0, allKinds()...), running(7, many(9)...), running(119, longest()...)) {
		b.setSlot(slot)
		before := b.image()
		b.checkState(slot)
		b.checkState(slot)
		if b.image() != before {
			t.Errorf("State has written to the disk")
		}
	}
}

func TestP17_4Clear(t *testing.T) {
	for _, slot := range slots() {
		b := used(t)
		b.setSlot(slot)
		before := b.holds()
		b.checkClear(api.OK)
		b.checkState(api.Slot{})
		b.checkClear(api.OK)
		b.checkState(api.Slot{})
		if b.holds() != before {
			t.Errorf("Clear has changed the volumes")
		}
		b.again()
		b.checkState(api.Slot{})
		b.checkNoStep(api.ErrEngineIdle)
		b.submit(remove("c"))
		b.checkStep(ended(remove("c")))
	}
}

// While a program is running layer 11 does nothing, and tells all; behind its end it does again.
func TestP17OperationsBesideAProgram(t *testing.T) {
	b := used(t)
	b.submit(remove("c"), remove("zz"))
	b.checkDo(create("n", 5), api.ErrVolBusy)
	if data, e := vol.Read(b.p, "a", 1); !bytes.Equal(data, full(5)) || e != api.OK {
		t.Errorf("Read(a, 1) while a program is running = %.1q, %d", data, e)
	}
	b.checkStep(running(1, remove("c"), remove("zz")))
	b.checkDo(create("n", 5), api.ErrVolBusy)
	b.checkStep(aborted(1, api.ErrActUnknown, remove("c"), remove("zz")))
	b.checkDo(create("n", 5), api.OK)
	b.checkState(aborted(1, api.ErrActUnknown, remove("c"), remove("zz")))
	b.submit(remove("n"))
	b.checkStep(ended(remove("n")))
	b.checkDo(create("n", 5), api.OK)
	b.checkState(ended(remove("n")))
}

// One operation of the greatest cost, beside a slot of the greatest bytes, over a catalog that is full.
func TestP17_2TheGreatestStep(t *testing.T) {
	b := made(t, 300, 0)
	b.do(create("a", 262144))
	for _, l := range []int{0, 4095, 4096, 262143} {
		b.do(write("a", l, full(1)))
	}
	for i := range 63 {
		b.do(snap(fmt.Sprintf("s%d", i), "a"))
	}
	ops := longest()
	for i, o := range []api.Op{fill("a", 4080, 4112), discard("s1", 4095, 262143), resize("s2", 4096), fill("s3", 262112, 262144), restore("s4", "a")} {
		ops[i] = o
	}
	c := b.twin()
	b.submit(ops...)
	for i, o := range ops[:5] {
		b.checkStep(running(i+1, ops...))
		c.do(o)
	}
	b.checkStep(aborted(5, api.ErrActUnknown, ops...))
	if got, want := fmt.Sprint(b.view()), fmt.Sprint(c.view()); got != want {
		t.Errorf("View() = %s; want %s", got, want)
	}
}
