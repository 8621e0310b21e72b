package tidy_test

import (
	"fmt"
	"math"
	"slices"
	"strings"
	"sync"
	"testing"

	"cistern/api"
	"cistern/dry"
	"cistern/tidy"
)

// handed is what the calls are handed, with all the room behind it: the lists of ranges and of bytes lie in one array each, those
// of the operations that have no data too.
type handed struct {
	v     api.View
	ops   []api.Op
	inV   []api.Range
	bytes []byte
	told  string
}

func handedOf(v api.View, ops []api.Op) *handed {
	h := &handed{v: v}
	for _, x := range v.Volumes {
		h.inV = append(h.inV, x.Mapped...)
	}
	for _, o := range ops {
		h.bytes = append(h.bytes, o.Data...)
	}
	h.inV, h.bytes = append(h.inV, ranges(1, 7, 77, 99)...), append(h.bytes, "spare"...)
	h.v.Volumes = append(make([]api.Volume, 0, len(v.Volumes)+3), v.Volumes...)
	at := 0
	for i, x := range v.Volumes {
		h.v.Volumes[i].Mapped = h.inV[at : at+len(x.Mapped)]
		at += len(x.Mapped)
	}
	for i := range 3 {
		h.v.Volumes[:len(v.Volumes)+3][len(v.Volumes)+i] = api.Volume{Name: "spare", ID: 77}
	}
	h.ops = append(make([]api.Op, 0, len(ops)+3), ops...)
	at = 0
	for i, o := range ops {
		h.ops[i].Data = h.bytes[at : at+len(o.Data)]
		at += len(o.Data)
	}
	for i := range 3 {
		h.ops[:len(ops)+3][len(ops)+i] = api.Op{Kind: api.OpDelete, Name: "spare"}
	}
	h.told = h.tell()
	return h
}

// tell tells all of it, the spare room too.
func (h *handed) tell() string {
	return fmt.Sprint(h.v, h.v.Volumes[:cap(h.v.Volumes)], h.inV, h.ops[:cap(h.ops)], h.bytes)
}

func (h *handed) check(t *testing.T) {
	t.Helper()
	if h.tell() != h.told {
		t.Errorf("R4: what was handed in has changed: %s", told(h.ops))
	}
}

// spoil writes over all of it.
func (h *handed) spoil() {
	clear(h.inV)
	for i := range h.bytes {
		h.bytes[i] = 200
	}
	spoilOps(h.ops)
	for i := range h.v.Volumes {
		h.v.Volumes[i] = api.Volume{Name: "spoilt", ID: -1}
	}
}

// spoilOps writes over an answer, and over all the room behind it and behind its data.
func spoilOps(ops []api.Op) {
	for _, o := range ops {
		all := o.Data[:cap(o.Data)]
		for i := range all {
			all[i] = 201
		}
	}
	for i := range ops[:cap(ops)] {
		ops[:cap(ops)][i] = api.Op{Kind: 99, Name: "spoilt", Data: []byte{1}}
	}
}

// texts are lists over the crowd that nothing is against, of which much can be spared, some or nothing.
func texts() []string {
	return []string{
		"", "resize a 40", "write a 1 7", "write a 1 7; write a 1 7; write b 2 7", "write a 1 7; resize a 40; write a 2 8; discard a 4 6; write a 3 9",
		"discard a 0 2; discard a 2 4; fill b 0 4; fill b 4 8; write b 3 5", "rename a to z; rename z to y; restore y from s; restore y from c; resize y 60; resize y 70",
		"rename a to z; rename z to a", "create n 5; snap m of n; delete m; extend 1001; write n 4 4", "resize a 30; write w 0 1; resize a 30; fill c 0 32; write w 1 2",
	}
}

func TestR4WhatIsHandedInStays(t *testing.T) {
	for _, text := range append(texts(), "resize a 40; write a 1 7; delete z", "discard a 4 6; delete a") {
		h := handedOf(crowd(), list(t, text))
		tidy.Ops(h.v, h.ops)
		h.check(t)
		tidy.Once(h.v, h.ops)
		h.check(t)
	}
	h := handedOf(crowd(), append(list(t, "resize a 40; write a 1 7"), api.Op{Kind: 99}))
	tidy.Ops(h.v, h.ops)
	tidy.Once(h.v, h.ops)
	h.check(t)
}

// Who writes over what is handed out, or over what was handed in, changes nothing that is answered before or later.
func TestR4WhatIsHandedOutIsNew(t *testing.T) {
	calls := []func(api.View, []api.Op) []api.Op{
		func(v api.View, ops []api.Op) []api.Op { out, _ := tidy.Ops(v, ops); return out },
		func(v api.View, ops []api.Op) []api.Op { out, _, _ := tidy.Once(v, ops); return out },
	}
	for _, text := range texts() {
		for _, call := range calls {
			h := handedOf(crowd(), list(t, text))
			first, second := call(h.v, h.ops), call(h.v, h.ops)
			want := told(first)
			spoilOps(first)
			h.check(t)
			third := call(h.v, h.ops)
			h.spoil()
			if told(second) != want || told(third) != want {
				t.Errorf("%s: %s has become %s, and is answered as %s", text, want, told(second), told(third))
			}
		}
	}
}

// No two operations of an answer share their data, and those that have none have no room for it either.
func TestR4NoTwoShare(t *testing.T) {
	one := data(5)
	ops := []api.Op{
		{Kind: api.OpWrite, Name: "a", From: 1, Data: one}, {Kind: api.OpWrite, Name: "a", From: 2, Data: one}, {Kind: api.OpDiscard, Name: "a", To: 1, Data: one[:0]},
		{Kind: api.OpDiscard, Name: "a", From: 1, To: 2, Data: one[:0]}, {Kind: api.OpWrite, Name: "b", From: 2, Data: one[:512:512]},
	}
	whole, _ := tidy.Ops(crowd(), ops)
	once, _, _ := tidy.Once(crowd(), ops)
	for _, got := range [][]api.Op{whole, once} {
		if told(got) != "write a 1 5; write a 2 5; discard a 0 2; write b 2 5" || cap(got[2].Data) > 0 {
			t.Fatalf("%s", told(got))
		}
		for i, o := range got {
			all := o.Data[:cap(o.Data)]
			for k := range all {
				all[k] = byte(i)
			}
		}
	}
	for _, got := range [][]api.Op{whole, once} {
		if told(got) != "write a 1 0; write a 2 1; discard a 0 2; write b 2 3" {
			t.Errorf("%s", told(got))
		}
	}
	if !slices.Equal(one, data(5)) {
		t.Errorf("the data that was handed in has changed")
	}
}

// Nil and empty lists are one, of bytes too: such operations are the same.
func TestR1NoneAndEmpty(t *testing.T) {
	for _, none := range [][]byte{nil, {}, make([]byte, 0, 5)} {
		v := crowd()
		v.Volumes[1].Mapped = []api.Range{}
		ops := []api.Op{{Kind: api.OpResize, Name: "b", To: 5, Data: none}, {Kind: api.OpDelete, Name: "w", Data: nil}, {Kind: api.OpDiscard, Name: "b", To: 5, Data: none}}
		if got, at, e := tidy.Once(v, ops); told(got) != "resize b 5; delete w" || at != 2 || e != api.OK {
			t.Errorf("Once = %s, %d, %d", told(got), at, e)
		}
		if got, e := tidy.Ops(v, ops); told(got) != "resize b 5; delete w" || e != api.OK {
			t.Errorf("Ops = %s, %d", told(got), e)
		}
	}
	empty := api.View{Capacity: 9, Next: 1, Volumes: []api.Volume{}}
	if got, e := tidy.Ops(empty, []api.Op{{Kind: api.OpCreate, Name: "a", To: 3}, {Kind: api.OpDiscard, Name: "a", To: 3}}); told(got) != "create a 3" || e != api.OK {
		t.Errorf("Ops = %s, %d", told(got), e)
	}
}

// Asked again, and many times at once, the answers are the same.
func TestR5AskedAgain(t *testing.T) {
	d := &drawing{seed: 5}
	type asked struct {
		v    api.View
		ops  []api.Op
		want string
	}
	answer := func(a asked) string {
		whole, e := tidy.Ops(a.v, a.ops)
		once, at, again := tidy.Once(a.v, a.ops)
		return fmt.Sprint(told(whole), e, told(once), at, again)
	}
	var all []asked
	for range 800 {
		a := asked{v: d.view()}
		a.ops = d.list(a.v, 10)
		a.want = answer(a)
		all = append(all, a)
	}
	wrong := make([]string, 4)
	wait := sync.WaitGroup{}
	for i := range wrong {
		wait.Go(func() {
			for _, a := range slices.Backward(all) {
				if got := answer(a); got != a.want {
					wrong[i] = got + "; it was " + a.want
				}
			}
		})
	}
	wait.Wait()
	for _, text := range wrong {
		if text != "" {
			t.Errorf("asked again: %s", text)
		}
	}
}

func (d *drawing) wildNumber() int {
	return d.number(0, 0, 1, 1, 2, 3, 5, 7, 10, 20, -1, -7, 64, 262144, 262145, 1<<30, 1<<40, math.MaxInt, math.MaxInt-1, math.MinInt)
}

func (d *drawing) wildName() string {
	return d.text("", "a", "b", "c", "a", "b", "c", "d", "A", "a b", "\x00", "é", strings.Repeat("a", 31), strings.Repeat("b", 400))
}

// wild draws a view that may not be: of any numbers, in any order, names and numbers that stand twice.
func (d *drawing) wild() api.View {
	v := api.View{Capacity: d.wildNumber(), Free: d.wildNumber(), Next: d.wildNumber()}
	for range d.number(0, 1, 2, 3, 4, 5, 5, 20, 65) {
		x := api.Volume{Name: d.wildName(), ID: d.wildNumber(), Size: d.wildNumber(), Origin: d.wildNumber(), Kind: d.number(0, 1, -1), Partial: d.below(20) == 0}
		for range d.below(5) {
			x.Mapped = append(x.Mapped, api.Range{From: d.wildNumber(), To: d.wildNumber()})
		}
		v.Volumes = append(v.Volumes, x)
	}
	return v
}

// wildOp draws an operation of any numbers and names, of a kind that can be spared more often than not.
func (d *drawing) wildOp(v api.View) api.Op {
	kind := d.number(4, 4, 5, 7, 9, 9, 10, 10, 1, 2, 3, 6, 8, 11)
	o := api.Op{Kind: kind, Name: d.text("a", "b", "c")}
	if len(v.Volumes) > 0 && d.below(2) == 0 {
		o.Name = v.Volumes[d.below(len(v.Volumes))].Name
	}
	switch kind {
	case api.OpSnap, api.OpClone, api.OpRename, api.OpRestore:
		o.Other = d.text("a", "b", "c", "d", "e")
	case api.OpWrite:
		o.From, o.Data = d.wildNumber(), data(1)
	case api.OpDiscard, api.OpFill:
		o.From, o.To = d.wildNumber(), d.wildNumber()
	default:
		o.To = d.wildNumber()
	}
	return o
}

// Over views that may not be, and of any operations, the calls end and do not panic; what is handed in stays, what is handed out is
// new, a refused call answers nothing but its error, and asked again they answer the same.
func TestP25_1WhatMayNotBe(t *testing.T) {
	d := &drawing{seed: 9}
	done, refused := 0, 0
	for range 20000 {
		v := d.wild()
		var ops []api.Op
		for range d.below(15) {
			o := d.wildOp(v)
			if _, _, e := dry.All(v, append(slices.Clip(ops), o)); e == api.OK || d.below(60) == 0 {
				ops = append(ops, o)
			}
		}
		_, _, want := dry.All(v, ops)
		h := handedOf(v, ops)
		got, e := tidy.Ops(h.v, h.ops)
		again, _ := tidy.Ops(h.v, h.ops)
		once, at, f := tidy.Once(h.v, h.ops)
		if e != want || f != want || e != api.OK && (len(got) > 0 || len(once) > 0 || at != 0) || len(got) > len(ops) || !isSame(got, again) || at < -1 || at > len(ops) {
			t.Fatalf("%s: %s, %d; %s, %d, %d", told(ops), told(got), e, told(once), at, f)
		}
		if at == -1 && !isSame(once, ops) || e == api.OK && at >= 0 && len(once) >= len(ops) {
			t.Fatalf("Once(%s) = %s, %d", told(ops), told(once), at)
		}
		spoilOps(got)
		spoilOps(once)
		h.check(t)
		if e == api.OK && len(ops) > 1 {
			done++
		}
		if e != api.OK {
			refused++
		}
	}
	if done < 2000 || refused < 1000 {
		t.Errorf("%d were done, %d refused", done, refused)
	}
}
