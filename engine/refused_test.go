package engine_test

import (
	"bytes"
	"fmt"
	"testing"

	"cistern/api"
	"cistern/engine"
	"cistern/field"
	"cistern/pool"
	"cistern/vol"
)

// checkAll asks all calls, with arguments that are good and bad, and holds that each is refused.
func checkAll(t *testing.T, p *pool.Pool, want api.Errno) {
	t.Helper()
	programs := [][]api.Op{nil, {remove("c")}, many(120), longest()}
	for _, more := range unfit() {
		programs = append(programs, more...)
	}
	for _, ops := range programs {
		if e := engine.Submit(p, ops); e != want {
			t.Errorf("Submit of %d operations = %d; want %d", len(ops), e, want)
		}
	}
	for what, call := range map[string]func(*pool.Pool) (api.Slot, api.Errno){"Step": engine.Step, "State": engine.State} {
		if s, e := call(p); shown(s) != shown(api.Slot{}) || e != want {
			t.Errorf("%s() = %s, %d; want none, %d", what, shown(s), e, want)
		}
	}
	if e := engine.Clear(p); e != want {
		t.Errorf("Clear() = %d; want %d", e, want)
	}
}

func TestR3ANilPool(t *testing.T) {
	checkAll(t, nil, api.ErrNil)
}

// allSlots gives some of each state.
func allSlots() []api.Slot {
	return append(slots(), running(0, remove("c")), running(1, remove("zz"), remove("c")), running(119, many(120)...))
}

// The power is off: that is told ahead of all else, also where a transaction is open.
func TestR6ThePowerIsOff(t *testing.T) {
	for _, slot := range allSlots() {
		for _, isOpen := range []bool{false, true} {
			b := used(t)
			b.setSlot(slot)
			if isOpen {
				b.begin()
			}
			n := b.pending()
			b.darken()
			checkAll(t, b.p, api.ErrDiskOff)
			checkAll(t, nil, api.ErrNil)
			if b.pending() != n {
				t.Errorf("calls with the power off have written to the disk")
			}
		}
	}
}

// A transaction is open: that is told ahead of what the slot is, and ahead of all that is wrong with what is handed in.
func TestP17ATransactionIsOpen(t *testing.T) {
	for _, slot := range allSlots() {
		b := used(t)
		b.setSlot(slot)
		before := b.image()
		x := b.begin()
		at, e := b.p.Place(200)
		if e != api.OK {
			t.Fatalf("Place(200) = %d", e)
		}
		if e := x.Write(at, full(200)); e != api.OK {
			t.Fatalf("Write = %d", e)
		}
		mark, _ := x.Mark()
		checkAll(t, b.p, api.ErrTxnOpen)
		// It is open still, and as it was: with what it has written, and with its marks.
		if data, e := x.Read(at); !bytes.Equal(data, full(200)) || e != api.OK {
			t.Errorf("behind the calls Read of the open transaction = %.1q, %d", data, e)
		}
		if n, e := x.Mark(); n != mark+1 || e != api.OK {
			t.Errorf("behind the calls Mark() = %d, %d; want %d", n, e, mark+1)
		}
		if b.image() != before {
			t.Errorf("calls with a transaction open have written to the disk")
		}
		b.commit(x)
		b.checkState(slot)
	}
}

// 64 volumes, and one more; then the last number that there is.
func TestP17_2WhereTheCatalogHasNoRoom(t *testing.T) {
	b := made(t, 20, 0)
	b.do(create("e", 3))
	for i := 1; i < 64; i++ {
		b.do(snap(fmt.Sprintf("v%d", i), "e"))
	}
	for _, o := range []api.Op{create("z", 3), snap("z", "e"), clone("z", "v9")} {
		b.checkAborts(o, api.ErrCatalogFull)
	}
	ops := program(remove("v63"), clone("z", "v1"), create("y", 3))
	b.submit(ops...)
	b.checkStep(running(1, ops...))
	b.checkStep(running(2, ops...))
	b.checkStep(aborted(2, api.ErrCatalogFull, ops...))
	b.do(remove("z"))
	b.lastIDs(1 << 30)
	ops = program(clone("z", "v1"), remove("z"), create("z", 3))
	b.submit(ops...)
	b.checkStep(running(1, ops...))
	b.checkStep(running(2, ops...))
	b.checkStep(aborted(2, api.ErrCatalogIDs, ops...))
	b.checkAborts(snap("z", "e"), api.ErrCatalogIDs)
}

// lastIDs says that of the catalog's numbers those from next on are left. No calls come to it in a test's time.
func (b *bench) lastIDs(next int) {
	b.t.Helper()
	const mark = "cistern's volumes"
	head := append([]byte{byte(len(mark))}, mark...)
	head = append(head, 0)
	x := b.begin()
	blocks, _ := b.d.Blocks()
	for at := range blocks {
		page, e := x.Read(at)
		if e != api.OK || !bytes.HasPrefix(page, head) {
			continue
		}
		for i := range 4 {
			page[len(head)+i] = byte(next >> (8 * i))
		}
		if e := x.Write(at, page); e != api.OK {
			b.t.Fatalf("Write(%d) = %d", at, e)
		}
	}
	b.commit(x)
	if n := b.view().Next; n != next {
		b.t.Fatalf("the next ID is %d; want %d", n, next)
	}
}

// lastSeqs gives the same pool behind so many transactions that of the journal's numbers just so many are left. No calls come
// to it in a test's time.
func (b *bench) lastSeqs(left int) *bench {
	b.t.Helper()
	b.again()
	image := b.crashed(nil)
	const seqFrom = 6
	changed := 0
	for at := 0; at < len(image); at += 512 {
		kind, life, body, e := field.Unstamp(image[at : at+512])
		if e != api.OK || kind != 2 || len(body) != seqFrom+8 {
			continue
		}
		seq, e := field.Pack(api.Field{Width: 8, Value: api.MaxSeq - left})
		if e != api.OK {
			b.t.Fatalf("Pack = %d", e)
		}
		block, e := field.Stamp(kind, life, append(body[:seqFrom], seq...))
		if e != api.OK {
			b.t.Fatalf("Stamp = %d", e)
		}
		copy(image[at:], block)
		changed++
	}
	if changed == 0 {
		b.t.Fatalf("no head of a journal is found")
	}
	return found(b.t, diskOf(b.t, image))
}

// What Commit is refused for goes up, and nothing is changed: the program is where it was, also where its operation would be
// refused.
func TestP17_2WhatCommitAnswersGoesUp(t *testing.T) {
	for _, o := range []api.Op{create("n", 5), remove("c"), restore("a", "a"), remove("zz"), fill("a", 0, 32)} {
		b := used(t)
		b.setSlot(running(0, remove("e"), o, remove("p")))
		b = b.lastSeqs(1)
		b.checkStep(running(1, remove("e"), o, remove("p")))
		before := b.tells()
		b.checkNoStep(api.ErrJournalSeq)
		b.checkNoStep(api.ErrJournalSeq)
		if b.tells() != before {
			t.Errorf("a step of %s whose Commit is refused has changed the pool", told(o))
		}
		b.again()
		b.checkState(running(1, remove("e"), o, remove("p")))
	}
}

func TestP17WhatCommitAnswersToSubmitAndClear(t *testing.T) {
	b := used(t)
	b.setSlot(ended(remove("zz")))
	b = b.lastSeqs(0)
	before := b.image()
	b.checkSubmit(program(remove("c")), api.ErrJournalSeq)
	b.checkSubmit(nil, api.ErrJournalSeq)
	b.checkSubmit(many(121), api.ErrOpMany)
	b.checkClear(api.ErrJournalSeq)
	b.checkState(ended(remove("zz")))
	if b.image() != before {
		t.Errorf("calls whose Commit is refused have changed the disk")
	}
}

// slotPage tells a block that the pool's slot lies in by the kind that it is stamped with.
func slotPage(page []byte) bool {
	kind, _, _, e := field.Unstamp(page)
	return kind == 93 && e == api.OK
}

// change commits other bytes in the place of a block, and gives the old ones.
func (b *bench) change(at int, page []byte) []byte {
	b.t.Helper()
	x := b.begin()
	old, e := x.Read(at)
	if e != api.OK {
		b.t.Fatalf("Read(%d) = %d", at, e)
	}
	if e := x.Write(at, page); e != api.OK {
		b.t.Fatalf("Write(%d) = %d", at, e)
	}
	b.commit(x)
	return old
}

// homes gives the blocks that a transaction can write and that hold something.
func (b *bench) homes() []int {
	b.t.Helper()
	x := b.begin()
	defer x.Abort()
	var out []int
	blocks, _ := b.d.Blocks()
	for at := range blocks {
		if page, e := x.Read(at); e == api.OK && !bytes.Equal(page, full(0)) {
			out = append(out, at)
		}
	}
	return out
}

// A block of the pool is spoilt, so that an operation is refused with an error that is none of the rules: the step answers what
// layer 11 does, and nothing is changed; when the block is put right the program goes on.
func TestP17_2ErrorsThatAreNoRules(t *testing.T) {
	met := map[api.Errno]int{}
	for _, o := range []api.Op{create("n", 5), fill("c", 2, 9), discard("a", 0, 65), remove("c"), resize("s", 1)} {
		ops := program(discard("e", 3, 3), o)
		right := used(t)
		right.do(o)
		want := right.holds()
		for _, at := range used(t).homes() {
			b, c := used(t), used(t)
			b.setSlot(running(1, ops...))
			if slotPage(c.change(at, noise(512, 3))) {
				continue
			}
			e := vol.Do(c.p, o)
			if e == api.OK || e >= api.ErrActKind && e <= api.ErrActChildren || e == api.ErrSpaceFull {
				continue
			}
			met[e]++
			old := b.change(at, noise(512, 3))
			b.checkNoStep(e)
			b.checkState(running(1, ops...))
			b.change(at, old)
			b.checkStep(ended(ops...))
			if got := b.holds(); got != want {
				t.Errorf("when block %d is put right the pool is %s; want %s", at, got, want)
			}
		}
	}
	if met[api.ErrCatalogForm] == 0 || met[api.ErrSpaceForm] == 0 || met[api.ErrRadixNode] == 0 {
		t.Errorf("the errors that were met are %v", met)
	}
}

// A slot that is spoilt: each call is refused for it, ahead of what is handed in.
func TestP17ASlotThatIsSpoilt(t *testing.T) {
	for _, slot := range allSlots() {
		b := used(t)
		b.setSlot(slot)
		for _, at := range b.homes() {
			x := b.begin()
			page, _ := x.Read(at)
			x.Abort()
			if !slotPage(page) {
				continue
			}
			b.change(at, noise(512, 1))
			before := b.image()
			checkAll(t, b.p, api.ErrPoolSlot)
			b.checkClosed("calls over a slot that is spoilt")
			if b.image() != before {
				t.Errorf("calls over a slot that is spoilt have changed the disk")
			}
			b.change(at, page)
			break
		}
		b.checkState(slot)
	}
}

// Over a pool of which a block is spoilt the calls end and do not panic; what is refused changes nothing, and behind each call no
// transaction is open.
func TestP17ASpoiltPool(t *testing.T) {
	for _, at := range used(t).homes() {
		for _, page := range [][]byte{full(0), noise(512, uint32(at)), nil} {
			b := used(t)
			b.setSlot(running(0, allKinds()[at%25], allKinds()[at%24+1]))
			if page == nil {
				x := b.begin()
				page, _ = x.Read(at)
				page[at%512] ^= 85
				x.Abort()
			}
			b.change(at, page)
			p, e := pool.Open(b.d)
			if e != api.OK {
				continue
			}
			b.p = p
			b.askAll()
		}
	}
}

// askAll asks all calls; what they answer nobody has promised.
func (b *bench) askAll() {
	b.t.Helper()
	for range 3 {
		before := b.image()
		s, e := engine.Step(b.p)
		b.checkClosed("Step")
		if e != api.OK && (b.image() != before || shown(s) != shown(api.Slot{})) {
			b.t.Errorf("Step() = %s, %d, and has changed something", shown(s), e)
		}
		if got, f := engine.State(b.p); e == api.OK && (f != api.OK || shown(got) != shown(s)) {
			b.t.Errorf("State() = %s, %d; Step gave %s", shown(got), f, shown(s))
		}
		b.checkClosed("State")
	}
	engine.Clear(b.p)
	b.checkClosed("Clear")
	engine.Submit(b.p, longest())
	b.checkClosed("Submit")
}

// Calls that only tell something, and those that are refused, write nothing, and no power goes off in them.
func TestR5CallsThatOnlyTell(t *testing.T) {
	for _, slot := range allSlots() {
		b := used(t)
		b.setSlot(slot)
		before := b.image()
		b.d.Fuse(0)
		b.checkState(slot)
		if slot.State == api.SlotRunning {
			b.checkClear(api.ErrEngineBusy)
			b.checkSubmit(nil, api.ErrEngineBusy)
		} else {
			b.checkNoStep(api.ErrEngineIdle)
			b.checkSubmit(many(121), api.ErrOpMany)
		}
		if !b.d.On() || b.image() != before {
			t.Errorf("calls that only tell something have written to the disk")
		}
	}
}

func TestR4WhatIsHandedInIsNotKept(t *testing.T) {
	b := used(t)
	all := program(remove("c"), remove("zz"), remove("e"), remove("p"))
	ops := all[:2]
	b.submit(ops...)
	b.checkSubmit(ops, api.ErrEngineBusy)
	if fmt.Sprint(all) != fmt.Sprint(program(remove("c"), remove("zz"), remove("e"), remove("p"))) {
		t.Errorf("Submit has changed what was handed in: %v", all)
	}
	for i := range all {
		all[i] = create("other", 5)
	}
	want := program(remove("c"), remove("zz"))
	b.checkState(running(0, want...))
	b.checkStep(running(1, want...))
	b.checkStep(aborted(1, api.ErrActUnknown, want...))
}

// Whatever is handed out is asked twice, and written over in between.
func TestR4WhatIsHandedOutIsNew(t *testing.T) {
	b := used(t)
	ops := program(remove("c"), remove("p"), remove("zz"), remove("e"))
	b.submit(ops...)
	for i := range 3 {
		for range 2 {
			s, e := engine.State(b.p)
			if e != api.OK {
				t.Fatalf("State() = %d", e)
			}
			overwrite(s.Ops)
			b.checkState(running(i, ops...))
		}
		s, e := engine.Step(b.p)
		if e != api.OK {
			t.Fatalf("Step() = %d", e)
		}
		overwrite(s.Ops)
	}
	b.checkState(aborted(2, api.ErrActUnknown, ops...))
}

// overwrite writes all over a list, its spare room too.
func overwrite(ops []api.Op) {
	all := ops[:cap(ops)]
	for i := range all {
		all[i] = create("other", 5)
	}
}

// Two pools in turns have nothing to do with each other.
func TestR5TwoPools(t *testing.T) {
	one, two := used(t), used(t)
	one.submit(remove("c"), remove("e"))
	two.checkNoStep(api.ErrEngineIdle)
	two.checkDo(remove("p"), api.OK)
	two.submit(remove("zz"))
	one.checkStep(running(1, remove("c"), remove("e")))
	two.checkStep(aborted(0, api.ErrActUnknown, remove("zz")))
	x := one.begin()
	two.checkClear(api.OK)
	checkAll(t, one.p, api.ErrTxnOpen)
	x.Abort()
	two.darken()
	one.checkStep(ended(remove("c"), remove("e")))
	checkAll(t, two.p, api.ErrDiskOff)
}
