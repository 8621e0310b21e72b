package pool_test

import (
	"bytes"
	"math"
	"testing"

	"cistern/api"
	"cistern/pool"
	"cistern/txn"
)

// checkRefused asks every call with a transaction, with arguments that are good, bad and several times bad.
func checkRefused(t *testing.T, p *pool.Pool, x *txn.Txn, want api.Errno) {
	t.Helper()
	if v, e := p.View(x); shown(v) != shown(api.View{}) || e != want {
		t.Errorf("View(t) = %s, %d; want none, %d", shown(v), e, want)
	}
	if s, e := p.Slot(x); shown(s) != shown(api.Slot{}) || e != want {
		t.Errorf("Slot(t) = %s, %d; want none, %d", shown(s), e, want)
	}
	for _, s := range []api.Slot{{}, greatest(api.SlotRunning), {State: 9}, slotOf(2, 121, 5, deletes(121)...), slotOf(1, -1, 0, api.Op{Kind: 8, From: -1})} {
		if e := p.SetSlot(x, s); e != want {
			t.Errorf("SetSlot(t, a slot of state %d) = %d; want %d", s.State, e, want)
		}
	}
	for _, c := range []int{math.MinInt, -1, 0, 1, 100, 101, 136, 137, 262144, 262145, math.MaxInt} {
		if e := p.Extend(x, c); e != want {
			t.Errorf("Extend(t, %d) = %d; want %d", c, e, want)
		}
	}
}

// checkRefusedAlone asks every call without a transaction that can be refused for its pool.
func checkRefusedAlone(t *testing.T, p *pool.Pool, want api.Errno) {
	t.Helper()
	if x, e := p.Begin(); x != nil || e != want {
		t.Errorf("Begin() = a transaction: %v, %d; want none, %d", x != nil, e, want)
	}
	if e := p.Sync(); e != want {
		t.Errorf("Sync() = %d; want %d", e, want)
	}
	for _, b := range []int{math.MinInt, -1, 0, 1, 100, 136, 137, math.MaxInt} {
		checkNoPlace(t, p, b, want)
	}
	if n, e := p.Bound(); n != 0 || e != want {
		t.Errorf("Bound() = %d, %d; want 0, %d", n, e, want)
	}
}

func TestR3ANilPool(t *testing.T) {
	b := made(t, 400, 100)
	var none *pool.Pool
	over := b.x
	b.abort()
	for range 2 {
		checkRefusedAlone(t, none, api.ErrNil)
		for _, x := range []*txn.Txn{nil, b.x, over} {
			checkRefused(t, none, x, api.ErrNil)
		}
		if none.Space() != nil || none.Map() != nil || none.Catalog() != nil {
			t.Errorf("a nil pool has parts")
		}
		b.darken()
	}
}

func TestP9WhichTransactionsAreTaken(t *testing.T) {
	b, other := made(t, 400, 100), made(t, 400, 100)
	b.put("a", 5)
	b.checkSetSlot(slotOf(api.SlotDone, 2, 0, deletes(2)...), api.OK)
	committed := b.x
	b.commit()
	aborted := b.x
	b.abort()
	before := b.state()
	checkRefused(t, b.p, nil, api.ErrNil)
	checkRefused(t, b.p, other.x, api.ErrTxnForeign)
	checkRefused(t, b.p, &txn.Txn{}, api.ErrTxnForeign)
	checkRefused(t, b.p, committed, api.ErrTxnOver)
	checkRefused(t, b.p, aborted, api.ErrTxnOver)
	if e := other.x.Abort(); e != api.OK {
		t.Fatalf("Abort() = %d", e)
	}
	checkRefused(t, b.p, other.x, api.ErrTxnForeign)
	b.checkUnwritten("a call with another transaction")
	if b.state() != before {
		t.Errorf("a call with another transaction has changed something")
	}
	// The power of another pool's disk is that one's alone.
	other.darken()
	checkRefused(t, b.p, other.x, api.ErrTxnForeign)
	last := b.x
	b.darken()
	checkRefused(t, b.p, nil, api.ErrNil)
	for _, x := range []*txn.Txn{last, committed, aborted, other.x} {
		checkRefused(t, b.p, x, api.ErrDiskOff)
	}
}

func TestR6ThePowerIsOff(t *testing.T) {
	b := used(t, 400, 100)
	s, m, k := b.p.Space(), b.p.Map(), b.p.Catalog()
	b.put("new", 1)
	image := crashed(t, b.d, nil)
	b.darken()
	checkRefusedAlone(t, b.p, api.ErrDiskOff)
	checkRefused(t, b.p, b.x, api.ErrDiskOff)
	checkFormat(t, b.d, 100, api.ErrDiskOff)
	checkNoOpen(t, b.d, api.ErrDiskOff)
	if b.p.Space() != s || b.p.Map() != m || b.p.Catalog() != k {
		t.Errorf("with the power off the pool has other parts")
	}
	if n, e := b.p.Space().Free(b.x); n != 0 || e != api.ErrDiskOff {
		t.Errorf("Free with the power off = %d, %d", n, e)
	}
	if e := b.x.Commit(); e != api.ErrDiskOff {
		t.Errorf("Commit() with the power off = %d", e)
	}
	if !bytes.Equal(crashed(t, b.d, nil), image) {
		t.Errorf("with the power off something that lasts has changed")
	}
}

// A call that only tells something, and each call within a transaction, writes nothing to the disk: no fuse burns.
func TestR5CallsThatWriteNothingToTheDisk(t *testing.T) {
	b := used(t, 400, 100)
	b.d.Fuse(0)
	b.abort()
	b.view()
	b.slot()
	b.bound()
	b.place(5)
	b.checkSetSlot(greatest(api.SlotRunning), api.OK)
	b.mark()
	b.put("new", 3)
	b.back(0)
	b.checkUnwrittenNow()
	if !b.d.On() {
		t.Errorf("the power is off behind calls that write nothing")
	}
	pool.Needed(5)
}

// checkUnwrittenNow holds that the pool's transaction can still be given up, and another one begun.
func (b *bench) checkUnwrittenNow() {
	b.t.Helper()
	before := pendingOf(b.t, b.d)
	b.abort()
	if after := pendingOf(b.t, b.d); after != before {
		b.t.Errorf("%d writes are pending, where %d were", after, before)
	}
}

// Two pools that differ in refused calls alone are the same, to the last byte of their disks.
func TestR2RefusedCallsAmongWritesAndMarks(t *testing.T) {
	var images [2][]byte
	for i := range images {
		b := made(t, 400, 100)
		over := b.x
		b.abort()
		other := made(t, 400, 100)
		refuse := func() {
			if i == 0 {
				return
			}
			b.checkSetSlot(api.Slot{State: 4}, api.ErrPoolSlot)
			b.checkSetSlot(slotOf(api.SlotDone, 121, 0, deletes(121)...), api.ErrPoolSlot)
			b.checkSetSlot(slotOf(api.SlotRunning, 0, 0, append(deletes(100), api.Op{Kind: api.OpExtend})...), api.ErrPoolSlot)
			b.checkExtend(100, api.ErrPoolCapacity)
			b.checkExtend(262145, api.ErrPoolCapacity)
			b.checkExtend(137, api.ErrPoolSize)
			checkRefused(t, b.p, over, api.ErrTxnOver)
			checkRefused(t, b.p, other.x, api.ErrTxnForeign)
			checkRefused(t, b.p, nil, api.ErrNil)
			checkNoPlace(t, b.p, 0, api.ErrSpaceBlock)
			checkFormat(t, b.d, 0, api.ErrPoolCapacity)
			checkFormat(t, b.d, 137, api.ErrPoolSize)
			if x, e := b.p.Begin(); x != nil || e != api.ErrTxnOpen {
				t.Errorf("Begin() = a transaction: %v, %d", x != nil, e)
			}
			b.view()
			b.slot()
		}
		refuse()
		b.put("a", 1, 2)
		refuse()
		m := b.mark()
		b.checkExtend(120, api.OK)
		refuse()
		b.back(m)
		refuse()
		b.checkSetSlot(greatest(api.SlotRunning), api.OK)
		if n := b.mark(); n != 1 {
			t.Errorf("Mark() = %d; want 1", n)
		}
		refuse()
		b.checkSetSlot(api.Slot{}, api.OK)
		b.back(1)
		b.commit()
		refuse()
		b.commit()
		b.sync()
		refuse()
		b.checkExtend(110, api.OK)
		b.commit()
		images[i] = crashed(t, b.d, firstPlaces(pendingOf(t, b.d)))
	}
	if !bytes.Equal(images[0], images[1]) {
		t.Errorf("refused calls leave another disk")
	}
}

// A Commit that is refused leaves the pool as it was.
func TestP9_11ATransactionThatIsTooLarge(t *testing.T) {
	b := used(t, 800, 100)
	before := b.state()
	b.checkSetSlot(slotOf(api.SlotDone, 1, 0, deletes(1)...), api.OK)
	b.put("new", 9)
	for block := 1; block <= b.bound(); block++ {
		b.write(block, full(7))
	}
	if e := b.x.Commit(); e != api.ErrJournalLarge {
		t.Fatalf("Commit() of %d blocks = %d", b.bound(), e)
	}
	b.begin()
	if b.state() != before || b.seen().state() != before {
		t.Errorf("a refused Commit has changed something")
	}
}

// The same calls on two disks leave the same bytes.
func TestR5TheSameCallsLeaveTheSameDisk(t *testing.T) {
	var images [2][]byte
	for i := range images {
		b := used(t, 400, 100)
		b.put("c", 100, 200, 300)
		b.commit()
		b = found(t, b.d)
		b.checkSetSlot(slotOf(api.SlotDone, 9, 0, manyOps(9, 1)...), api.OK)
		b.commit()
		images[i] = crashed(t, b.d, firstPlaces(pendingOf(t, b.d)))
	}
	if !bytes.Equal(images[0], images[1]) {
		t.Errorf("the same calls leave two disks")
	}
}
