package vol_test

import (
	"testing"

	inside "cistern/act"
	"cistern/api"
	"cistern/txn"
	"cistern/vol"
)

// What is done within a transaction is committed if it answers OK, and else nothing of it is; behind both none is open.
func TestP11Within(t *testing.T) {
	b := used(t)
	before := b.image()
	e := vol.Within(b.p, func(x *txn.Txn) api.Errno {
		if e := inside.Do(b.p, x, write("a", 0, full(88))); e != api.OK {
			t.Errorf("Do = %d", e)
		}
		return api.ErrStreamBase
	})
	b.checkClosed("Within")
	if e != api.ErrStreamBase || b.image() != before {
		t.Errorf("Within = %d; nothing is changed: %v", e, b.image() == before)
	}
	e = vol.Within(b.p, func(x *txn.Txn) api.Errno { return inside.Do(b.p, x, write("a", 0, full(88))) })
	b.checkClosed("Within")
	b.checkRead("a", 0, 88)
	if e != api.OK {
		t.Errorf("Within = %d", e)
	}
	x := b.begin()
	if e := vol.Within(b.p, func(*txn.Txn) api.Errno { return api.OK }); e != api.ErrTxnOpen {
		t.Errorf("Within with a transaction open = %d", e)
	}
	x.Abort()
	if e := vol.Within(nil, func(*txn.Txn) api.Errno { return api.OK }); e != api.ErrNil {
		t.Errorf("Within a nil pool = %d", e)
	}
}

func TestP11AskIdle(t *testing.T) {
	b := used(t)
	for want, s := range map[api.Errno]api.Slot{
		api.OK:         {State: api.SlotDone, Counter: 1, Ops: []api.Op{remove("a")}},
		api.ErrVolBusy: running(remove("a")),
	} {
		b.setSlot(s)
		x := b.begin()
		if e := vol.AskIdle(b.p, x); e != want {
			t.Errorf("AskIdle with a slot of state %d = %d; want %d", s.State, e, want)
		}
		x.Abort()
	}
}
