package order_test

import (
	"fmt"
	"math"
	"slices"
	"strings"
	"sync"
	"testing"

	"cistern/api"
	"cistern/order"
)

// handed is what Steps is handed, with all the room behind it: the lists of ranges and of bytes each have spare room too.
type handed struct {
	v     api.View
	ops   []api.Op
	inV   []api.Range
	bytes []byte
	told  string
}

func handedOf(v api.View, ops []api.Op) *handed {
	h := &handed{inV: make([]api.Range, 40), bytes: []byte("0123456789")}
	for i := range h.inV {
		h.inV[i] = api.Range{From: 2 * i, To: 2*i + 1}
	}
	h.v = v
	h.v.Volumes = append(make([]api.Volume, 0, len(v.Volumes)+3), v.Volumes...)
	for i := range h.v.Volumes {
		h.v.Volumes[i].Mapped = h.inV[i%30 : i%30+2]
	}
	h.ops = append(make([]api.Op, 0, len(ops)+5), ops...)
	for i, o := range ops {
		if len(o.Data) == 0 {
			h.ops[i].Data = h.bytes[i%9 : i%9]
		}
	}
	for i := range h.v.Volumes[len(v.Volumes):cap(h.v.Volumes)] {
		h.v.Volumes[:cap(h.v.Volumes)][len(v.Volumes)+i] = api.Volume{Name: "spare", ID: 77}
	}
	for i := range h.ops[len(ops):cap(h.ops)] {
		h.ops[:cap(h.ops)][len(ops)+i] = api.Op{Kind: api.OpDelete, Name: "spare"}
	}
	h.told = h.tell()
	return h
}

func (h *handed) tell() string {
	return fmt.Sprint(h.v, h.v.Volumes[:cap(h.v.Volumes)], h.ops[:cap(h.ops)], h.inV, string(h.bytes))
}

// check holds that it stays as it was.
func (h *handed) check(t *testing.T) {
	t.Helper()
	if h.tell() != h.told {
		t.Errorf("R4: %s\nhas become %s", h.told, h.tell())
	}
}

// spoil writes over all of it.
func (h *handed) spoil() {
	for i := range h.v.Volumes[:cap(h.v.Volumes)] {
		h.v.Volumes[:cap(h.v.Volumes)][i] = api.Volume{Name: "spoilt", ID: -1}
	}
	for i := range h.ops[:cap(h.ops)] {
		h.ops[:cap(h.ops)][i] = api.Op{Kind: 99, Name: "spoilt"}
	}
	clear(h.inV)
	clear(h.bytes)
}

// spoilSteps writes over an answer: the room behind it, and behind its bytes, too.
func spoilSteps(ops []api.Op) {
	for _, o := range ops {
		_ = append(o.Data, "spoilt"...)
	}
	for i := range ops[:cap(ops)] {
		ops[:cap(ops)][i] = api.Op{Kind: 99, Name: "spoilt", Data: []byte{1}}
	}
}

// texts are steps that have an order over the crowd.
func texts() []string {
	return []string{
		"", "rename a to b; rename b to a", "rename a to x; create n 5; fill n 0 5", "delete a; delete b; delete c; snap s of d", "resize a 30; resize b 2; clone n of m; clone m of d",
		"fill d 0 3; resize d 4; resize n 9; create n 3; delete s; snap s of d; rename c to d; rename d to e; rename e to c",
	}
}

const crowd = "a 1 9; b 2 9 1; c 3 9 2; d 4 9; e 5 7"

func TestR4WhatIsHandedInStays(t *testing.T) {
	for _, text := range append(texts(), "clone n of n", "restore a from b", "rename a to b") {
		h := handedOf(view(t, crowd), steps(t, text))
		order.Steps(h.v, h.ops)
		h.check(t)
	}
	for _, es := range [][]api.Edge{nil, edges(0, 1, 1, 2), edges(0, 1, 1, 0), edges(0, 5), edges(2, 2, 2, 1), edges(2, 1, 1, 0, 2, 1)} {
		room := append(append(make([]api.Edge, 0, len(es)+4), es...), edges(2, 2, 7, 7, 1, 0, 0, 1)...)
		want := slices.Clone(room)
		order.Order(3, room[:len(es)])
		order.Circle(3, room[:len(es)])
		if !slices.Equal(room, want) {
			t.Errorf("R4: %v has become %v", want, room)
		}
	}
}

// Who writes over what is handed out, or over what was handed in, changes nothing that is answered before or later.
func TestR4WhatIsHandedOutIsNew(t *testing.T) {
	for _, text := range texts() {
		h := handedOf(view(t, crowd), steps(t, text))
		first, e := order.Steps(h.v, h.ops)
		second, _ := order.Steps(h.v, h.ops)
		want := toldSteps(first)
		spoilSteps(first)
		h.check(t)
		third, _ := order.Steps(h.v, h.ops)
		h.spoil()
		if toldSteps(second) != want || toldSteps(third) != want || e != api.OK {
			t.Errorf("%s: %s has become %s, and is answered as %s, %d", text, want, toldSteps(second), toldSteps(third), e)
		}
		for _, o := range second {
			if o.Data != nil {
				t.Errorf("%s: %v", text, o)
			}
		}
	}
	es := edges(0, 1, 2, 1)
	one, _ := order.Order(3, es)
	two, _ := order.Order(3, es)
	clear(one[:cap(one)])
	es[1] = api.Edge{}
	if !slices.Equal(two, []int{0, 2, 1}) {
		t.Errorf("Order: %v", two)
	}
	es = edges(0, 1, 1, 0)
	one, _ = order.Circle(2, es)
	two, _ = order.Circle(2, es)
	clear(one[:cap(one)])
	if len(two) != 2 || two[0]+two[1] != 1 {
		t.Errorf("Circle: %v", two)
	}
}

// Nil and empty lists are one.
func TestR1NoneAndEmpty(t *testing.T) {
	for _, es := range [][]api.Edge{nil, {}, make([]api.Edge, 0, 5)} {
		checkOrder(t, 0, es)
		checkOrder(t, 2, es, 0, 1)
		checkEdge(t, -1, es)
	}
	for _, volumes := range [][]api.Volume{nil, {}, make([]api.Volume, 0, 5)} {
		for _, data := range [][]byte{nil, {}, make([]byte, 0, 5)} {
			v := api.View{Capacity: 9, Free: 4, Next: 7, Volumes: volumes}
			for _, ops := range [][]api.Op{nil, {}, make([]api.Op, 0, 5)} {
				if got, e := order.Steps(v, ops); len(got) > 0 || e != api.OK {
					t.Errorf("Steps = %v, %d", got, e)
				}
			}
			ops := []api.Op{{Kind: api.OpFill, Name: "a", To: 3, Data: data}, {Kind: api.OpCreate, Name: "a", To: 3, Data: data}}
			if got, e := order.Steps(v, ops); toldSteps(got) != "create a 3; fill a 0 3" || e != api.OK {
				t.Errorf("Steps = %v, %d", got, e)
			}
		}
	}
}

// Asked twice, and many times at once, the answers are the same.
func TestR5AskedAgain(t *testing.T) {
	d := &drawing{seed: 5}
	type asked struct {
		v    api.View
		ops  []api.Op
		es   []api.Edge
		want string
	}
	answer := func(a asked) string {
		ops, e := order.Steps(a.v, a.ops)
		things, err := order.Order(9, a.es)
		circle, again := order.Circle(9, a.es)
		return fmt.Sprint(toldSteps(ops), e, things, err, circle, again)
	}
	var all []asked
	for range 2000 {
		a := asked{ops: d.steps(), es: d.edges(9)}
		a.v = d.free(d.view(), a.ops)
		a.want = answer(a)
		all = append(all, a)
	}
	wrong := make([]string, 4)
	wait := sync.WaitGroup{}
	for i := range wrong {
		wait.Go(func() {
			for _, a := range slices.Backward(all) {
				if got := answer(a); got != a.want {
					wrong[i] = got + "; it was " + a.want
				}
			}
		})
	}
	wait.Wait()
	for _, text := range wrong {
		if text != "" {
			t.Errorf("asked again: %s", text)
		}
	}
}

// Of a view's volumes only names, IDs, sizes and origins turn an order.
func TestP24_3WhatElseAViewTells(t *testing.T) {
	for _, text := range texts() {
		v := view(t, crowd)
		want, _ := order.Steps(v, steps(t, text))
		v.Capacity, v.Free, v.Next = 1, 0, 6
		for i := range v.Volumes {
			x := &v.Volumes[i]
			x.Kind, x.Partial, x.Mapped = api.KindSnap, true, []api.Range{{From: 0, To: 1}}
		}
		if got, e := order.Steps(v, steps(t, text)); toldSteps(got) != toldSteps(want) || e != api.OK {
			t.Errorf("Steps(%s) = %s, %d; want %s", text, toldSteps(got), e, toldSteps(want))
		}
	}
}

func (d *drawing) wildNumber() int {
	return d.number(0, 0, 1, 1, 2, 3, 5, 7, 10, 20, -1, -7, 64, 262144, 262145, 1<<30, 1<<40, math.MaxInt, math.MinInt)
}

func (d *drawing) wildName() string {
	return d.text("", "a", "b", "c", "a", "b", "c", "A", "~1", "~2", "a b", "\x00", "é", strings.Repeat("a", 31), strings.Repeat("b", 400))
}

// wild draws a view that may not be: of any numbers, in any order, names and numbers that stand twice.
func (d *drawing) wild() api.View {
	v := api.View{Capacity: d.wildNumber(), Free: d.wildNumber(), Next: d.wildNumber()}
	for range d.number(0, 1, 2, 3, 4, 5, 5, 20, 65) {
		x := api.Volume{Name: d.wildName(), ID: d.wildNumber(), Size: d.wildNumber(), Origin: d.wildNumber(), Kind: d.number(0, 1, -1), Partial: d.below(8) == 0}
		for range d.below(3) {
			x.Mapped = append(x.Mapped, api.Range{From: d.wildNumber(), To: d.wildNumber()})
		}
		v.Volumes = append(v.Volumes, x)
	}
	return v
}

// Over views and operations that may not be the calls end and do not panic; what is handed in stays, what is handed out is new,
// and a refused call answers nothing but its error.
func TestP24_3WhatMayNotBe(t *testing.T) {
	d := &drawing{seed: 9}
	met := map[api.Errno]int{}
	for i := range 8000 {
		v, ops := d.wild(), d.steps()
		if i%4 == 0 {
			for range 1 + d.below(4) {
				ops = append(ops, api.Op{Kind: d.number(1, 2, 3, 4, 5, 6, 7, 8, 9, 10, 11, 0, -1), Name: d.wildName(), Other: d.wildName(), From: d.wildNumber(), To: d.wildNumber(), Data: make([]byte, d.number(0, 0, 1, 512))})
			}
		}
		h := handedOf(v, ops)
		got, e := order.Steps(h.v, h.ops)
		met[e]++
		if e != api.OK && (len(got) > 0 || e != api.ErrOrderStep && e != api.ErrOrderCircle) || e == api.OK && len(got) < len(ops) {
			t.Fatalf("%s: %v, %d", h.told, got, e)
		}
		spoilSteps(got)
		h.check(t)
	}
	if met[api.OK] < 500 || met[api.ErrOrderStep] < 500 || met[api.ErrOrderCircle] < 500 {
		t.Errorf("met: %v", met)
	}
}

// Volumes that come from one another, or from themselves, in a view that may not be: only a circle of those that go is one.
func TestP24_3OriginsInACircle(t *testing.T) {
	v := view(t, "a 1 9 2; b 2 9 1; c 3 9 3")
	if got, e := order.Steps(v, steps(t, "delete a; delete b")); len(got) > 0 || e != api.ErrOrderCircle {
		t.Errorf("Steps = %v, %d", got, e)
	}
	if got, e := order.Steps(v, steps(t, "delete c; delete b")); toldSteps(got) != "delete c; delete b" || e != api.OK {
		t.Errorf("Steps = %v, %d", got, e)
	}
}

// manySteps gives so many operations, of a form each.
func manySteps(count int, form func(i int) api.Op) []api.Op {
	ops := make([]api.Op, count)
	for i := range ops {
		ops[i] = form(i)
	}
	return ops
}

func numbered(i int) string { return fmt.Sprint("n", i) }

// More operations than an Order has things.
func TestP24_3MoreThanThings(t *testing.T) {
	count := api.MaxBlocks + 10
	ops := manySteps(count, func(i int) api.Op { return api.Op{Kind: api.OpFill, Name: "a", To: 1 + i%2} })
	ops[count-1] = api.Op{Kind: api.OpCreate, Name: "a", To: 2}
	if got, e := order.Steps(api.View{}, ops); e != api.OK || len(got) != count || got[0].Kind != api.OpCreate || got[1].To != 1 || got[count-1].To != ops[count-2].To {
		t.Errorf("%d, %d", len(got), e)
	}
}

// Chains and circles of many.
func TestP24_3Many(t *testing.T) {
	count := 50000
	last := func(i int) string { return numbered(count - 1 - i) }
	snaps := manySteps(count, func(i int) api.Op { return api.Op{Kind: api.OpSnap, Name: last(i), Other: last(i + 1)} })
	if got, e := order.Steps(api.View{}, snaps); e != api.OK || toldSteps(got) != toldSteps(snaps) {
		t.Errorf("snapshots: %d, %d", len(got), e)
	}
	clones := manySteps(count, func(i int) api.Op { return api.Op{Kind: api.OpClone, Name: numbered(i), Other: numbered(i + 1)} })
	if got, e := order.Steps(api.View{}, clones); e != api.OK || len(got) != count || got[0].Name != last(0) || got[count-1].Name != "n0" {
		t.Errorf("clones: %d, %d", len(got), e)
	}
	clones[count-1].Other = "n0"
	if got, e := order.Steps(api.View{}, clones); e != api.ErrOrderCircle || len(got) > 0 {
		t.Errorf("clones: %d, %d", len(got), e)
	}
	turning := manySteps(count, func(i int) api.Op { return api.Op{Kind: api.OpRename, Name: numbered(i), Other: numbered(i ^ 1)} })
	if got, e := order.Steps(api.View{}, turning); e != api.OK || len(got) != count*3/2 || got[0].Other != "~1" || got[1].Name != "n1" || got[2].Name != "~1" {
		t.Errorf("renames: %d, %d", len(got), e)
	}
	turning = manySteps(count, func(i int) api.Op {
		return api.Op{Kind: api.OpRename, Name: numbered(i), Other: numbered((i + 1) % count)}
	})
	if got, e := order.Steps(api.View{}, turning); e != api.OK || len(got) != count+1 || got[0].Other != "~1" || got[1].Name != last(0) || got[count].Other != "n1" {
		t.Errorf("renames: %d, %d", len(got), e)
	}
}

// Chains of many, of which each one's size at birth is that of the last.
func TestP24_3ManySizesAtBirth(t *testing.T) {
	count := 50000
	ops := []api.Op{{Kind: api.OpResize, Name: "n5", To: 8}}
	for i := range count {
		ops = append(ops, api.Op{Kind: api.OpSnap, Name: numbered(i), Other: numbered(i + 1)}, api.Op{Kind: api.OpResize, Name: numbered(i), To: 7})
	}
	for size, first := range map[int]string{8: "n5", 7: "n0"} {
		made := api.Op{Kind: api.OpCreate, Name: numbered(count), To: size}
		got, e := order.Steps(api.View{}, append(slices.Clone(ops), made))
		if e != api.OK || len(got) != 2*count+2 || got[count].Kind != api.OpCreate || got[count+1].Name != first {
			t.Errorf("%d steps, %d", len(got), e)
		}
	}
}

// Many of one name: the edges of all pairs would be as many as there are pairs.
func TestP24_3ManyOfOneName(t *testing.T) {
	count := 200000
	of := func(kind int, to int) func(i int) api.Op {
		return func(i int) api.Op {
			names := []string{"a", "b"}
			o := api.Op{Kind: kind, Name: names[i%2], To: to}
			if kind == api.OpClone {
				o.Other = names[1-i%2]
			}
			return o
		}
	}
	v := view(t, "a 1 9; b 2 9 1")
	if got, e := order.Steps(v, manySteps(count, of(api.OpDelete, 0))); e != api.OK || got[0].Name != "b" || got[count/2-1].Name != "b" || got[count/2].Name != "a" {
		t.Errorf("deletes: %d, %d", len(got), e)
	}
	if got, e := order.Steps(v, manySteps(count, of(api.OpClone, 0))); e != api.ErrOrderCircle {
		t.Errorf("clones: %d, %d", len(got), e)
	}
	ops := append(manySteps(count, func(i int) api.Op { return api.Op{Kind: api.OpClone, Name: "c", Other: "a"} }), manySteps(count, of(api.OpCreate, 5))...)
	if got, e := order.Steps(v, ops); e != api.OK || got[count-2].Name != "a" || got[count-1].Name != "c" || got[2*count-1].Name != "b" {
		t.Errorf("creates: %d, %d", len(got), e)
	}
}
