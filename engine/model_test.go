package engine_test

import (
	"fmt"
	"testing"

	"cistern/api"
	"cistern/engine"
	"cistern/vol"
)

// world is a pool with programs, and beside it what the chapter says of it: the slot as a plain value, and the volumes as another
// pool has them over which the same operations are done by layer 11.
type world struct {
	*bench
	twin *bench
	slot api.Slot
	met  map[string]int
}

func newWorld(t *testing.T, capacity int) *world {
	t.Helper()
	return &world{bench: made(t, capacity, 0), twin: made(t, capacity, 0), met: map[string]int{}}
}

// check holds that both are the same.
func (w *world) check(what string) {
	w.t.Helper()
	if got, want := fmt.Sprint(w.view()), fmt.Sprint(w.twin.view()); got != want {
		w.t.Fatalf("behind %s View() = %s; want %s", what, got, want)
	}
	w.checkState(w.slot)
	w.met[what]++
}

func (w *world) isRunning() bool { return w.slot.State == api.SlotRunning }

// submits draws a program, with its error.
func (w *world) submits(d *dice) {
	w.t.Helper()
	var ops []api.Op
	want := api.OK
	for range d.roll(9) {
		o := d.op()
		if bad := d.roll(40); bad == 0 {
			e := []api.Errno{api.ErrOpProgram, api.ErrOpProgram, api.ErrActName, api.ErrActSize, api.ErrActRange, api.ErrActForm}
			i := d.roll(len(e))
			o = program(write("a", 0, full(1)), extend(900), remove("A"), create("n", 0), fill("a", 9, 42), api.Op{Kind: api.OpDelete, Name: "a", From: 3})[i]
			if want == api.OK {
				want = e[i]
			}
		}
		ops = append(ops, o)
	}
	if d.roll(30) == 0 {
		for len(ops) <= 120 {
			ops = append(ops, d.op())
		}
		want = api.ErrOpMany
	}
	if w.isRunning() {
		want = api.ErrEngineBusy
	}
	w.checkSubmit(ops, want)
	if want == api.OK {
		w.slot = api.Slot{State: api.SlotRunning, Ops: ops}
		if len(ops) == 0 {
			w.slot.State = api.SlotDone
		}
	}
	w.check(fmt.Sprintf("Submit %d", want))
}

func (w *world) steps() {
	w.t.Helper()
	if !w.isRunning() {
		w.checkNoStep(api.ErrEngineIdle)
		w.check("no Step")
		return
	}
	e := vol.Do(w.twin.p, w.slot.Ops[w.slot.Counter])
	if e == api.OK {
		w.slot.Counter++
	} else {
		w.slot.State, w.slot.Code = api.SlotAborted, e
	}
	if w.slot.Counter == len(w.slot.Ops) {
		w.slot.State = api.SlotDone
	}
	w.checkStep(w.slot)
	w.check(fmt.Sprintf("Step %d", w.slot.State))
	w.met[fmt.Sprintf("code %d", e)]++
}

func (w *world) clears() {
	w.t.Helper()
	if w.isRunning() {
		w.checkClear(api.ErrEngineBusy)
	} else {
		w.checkClear(api.OK)
		w.slot = api.Slot{}
	}
	w.check("Clear")
}

// does does an operation by layer 11.
func (w *world) does(o api.Op) {
	w.t.Helper()
	want := api.ErrVolBusy
	if !w.isRunning() {
		want = vol.Do(w.twin.p, o)
	}
	w.checkDo(o, want)
	w.check("Do")
}

// dice draws from bytes that look like chance.
type dice struct{ seed uint32 }

func (d *dice) roll(n int) int {
	d.seed = d.seed*1664525 + 1013904223
	return int(d.seed>>8) % n
}

func (d *dice) name() string { return string(rune('a' + d.roll(5))) }

// op draws an operation that a program may hold: many are refused by the pool.
func (d *dice) op() api.Op {
	from := d.roll(70)
	switch d.roll(12) {
	case 0:
		return snap(d.name(), d.name())
	case 1:
		return clone(d.name(), d.name())
	case 2:
		return resize(d.name(), 1+d.roll(90))
	case 3:
		return rename(d.name(), d.name())
	case 4:
		return remove(d.name())
	case 5:
		return restore(d.name(), d.name())
	case 6, 7:
		return discard(d.name(), from, from+d.roll(20))
	case 8, 9, 10:
		return fill(d.name(), from, from+d.roll(9))
	}
	return create(d.name(), 1+d.roll(90))
}

// Calls in any order, over pools of some sizes.
func TestP17CallsInAnyOrder(t *testing.T) {
	met := map[string]int{}
	for seed := range uint32(12) {
		w, d := newWorld(t, 12+int(seed)*4), &dice{seed: seed}
		for range 500 {
			switch d.roll(10) {
			case 0:
				w.submits(d)
			case 1:
				w.clears()
			case 2:
				o := d.op()
				if d.roll(2) == 0 {
					o = write(d.name(), d.roll(90), noise(512, d.seed))
				}
				w.does(o)
			case 3:
				if d.roll(3) == 0 {
					w.again()
					w.check("Open")
				}
			default:
				w.steps()
			}
			if t.Failed() {
				t.Fatalf("with seed %d", seed)
			}
		}
		if got, want := w.holds(), w.twin.holds(); got != want {
			t.Fatalf("in the end the pool is %s; want %s", got, want)
		}
		for what, n := range w.met {
			met[what] += n
		}
	}
	for _, what := range []string{
		"Submit 0", "Submit 163", "Submit 164", "Submit 102", "Submit 106", "Submit 107", "Submit 101", "Submit 170", "no Step", "Clear", "Do", "Open",
		"Step 1", "Step 2", "Step 3", "code 64", "code 104", "code 105", "code 107", "code 109",
	} {
		if met[what] == 0 {
			t.Errorf("no script comes to %q; met are %v", what, met)
		}
	}
}

// The same calls over two pools give the same bytes.
func TestR5TheSameCallsGiveTheSame(t *testing.T) {
	play := func() string {
		b, d := made(t, 30, 0), &dice{seed: 7}
		for range 40 {
			ops := program(d.op(), d.op(), d.op(), d.op())
			engine.Submit(b.p, ops)
			for range 4 {
				engine.Step(b.p)
			}
		}
		return b.image()
	}
	if play() != play() {
		t.Errorf("the same calls leave other bytes")
	}
}
