package dry_test

import (
	"bytes"
	"math"
	"slices"
	"sync"
	"testing"

	"cistern/api"
	"cistern/dry"
)

// laid gives a view whose lists of ranges lie one behind the other in one array, each with all that is behind it as spare room;
// its list of volumes has spare room too. The array is handed out, to be looked at.
func laid(v api.View) (api.View, []api.Range) {
	var all []api.Range
	for _, x := range v.Volumes {
		all = append(all, x.Mapped...)
	}
	for i := range 20 {
		all = append(all, api.Range{From: 1000 + i, To: 2000 + i})
	}
	all = slices.Clip(all)
	at := 0
	volumes := make([]api.Volume, len(v.Volumes), len(v.Volumes)+5)
	for i, x := range v.Volumes {
		n := len(x.Mapped)
		x.Mapped = all[at : at+n]
		at += n
		volumes[i] = x
	}
	for i := range 5 {
		volumes[:cap(volumes)][len(volumes)+i] = api.Volume{Name: "spare", ID: 77, Mapped: all[at:]}
	}
	v.Volumes = volumes
	return v, all
}

// spareOf tells what lies in and behind a view's list of volumes.
func spareOf(v api.View) string {
	v.Volumes = v.Volumes[:cap(v.Volumes)]
	return told(v)
}

func TestR4WhatIsHandedInStays(t *testing.T) {
	for _, v := range []api.View{example(), crowd(), fullCrowd(), lastCrowd(), one(10, ranges(0, 1, 2, 3, 4, 5)...)} {
		v, all := laid(v)
		before, array := spareOf(v), slices.Clone(all)
		ops := append(allKinds(), create("a", 5), remove("zz"), rename("a", "z"), discard("a", 0, 10), fill("a", 0, 10), write("a", 1), resize("a", 1), restore("s", "a"), snap("b", "s"), api.Op{})
		for _, o := range ops {
			dry.Do(v, o)
			dry.All(v, []api.Op{o, o, rename("a", "m"), fill("m", 3, 9), remove("s")})
		}
		dry.All(v, ops)
		dry.Same(v, v)
		if spareOf(v) != before || !slices.Equal(all, array) {
			t.Errorf("%s has become %s", before, spareOf(v))
		}
	}
}

func TestR4OperationsStay(t *testing.T) {
	data := append(bytes.Repeat([]byte{7}, 512), bytes.Repeat([]byte{8}, 512)...)
	ops := make([]api.Op, 0, 5)
	ops = append(ops, create("n", 5), api.Op{Kind: api.OpWrite, Name: "n", From: 1, Data: data[:512]}, snap("m", "n"))
	ops[:5][3] = remove("spare")
	dry.All(example(), ops)
	dry.Do(example(), api.Op{Kind: api.OpWrite, Name: "a", From: 1, Data: data[:512]})
	if !bytes.Equal(data[:512], bytes.Repeat([]byte{7}, 512)) || !bytes.Equal(data[512:], bytes.Repeat([]byte{8}, 512)) {
		t.Errorf("the data has changed")
	}
	if toldOp(ops[0]) != toldOp(create("n", 5)) || toldOp(ops[2]) != toldOp(snap("m", "n")) || toldOp(ops[:5][3]) != toldOp(remove("spare")) || ops[:5][4].Kind != 0 {
		t.Errorf("the operations have changed: %v", ops[:5])
	}
}

// spoil writes over all that an answer holds, its spare room too.
func spoil(v api.View) {
	for i := range v.Volumes {
		mapped := v.Volumes[i].Mapped[:cap(v.Volumes[i].Mapped)]
		for k := range mapped {
			mapped[k] = api.Range{From: -5, To: -6}
		}
	}
	volumes := v.Volumes[:cap(v.Volumes)]
	for i := range volumes {
		volumes[i] = api.Volume{Name: "spoilt", ID: -1}
	}
}

// What is handed out is new: who writes over it changes neither the view that was handed in nor what is answered later.
func TestR4WhatIsHandedOutIsNew(t *testing.T) {
	for _, v := range []api.View{example(), crowd()} {
		before := told(v)
		for _, o := range append(allKinds(), restore("a", "a"), resize("a", 40), discard("a", 0, 0), fill("a", 0, 0), write("a", 0)) {
			first, e := dry.Do(v, o)
			if e != api.OK {
				if !isOne(o.Kind, api.OpDelete, api.OpExtend) {
					t.Errorf("%s = %d", toldOp(o), e)
				}
				continue
			}
			want := told(first)
			second, _, _ := dry.All(v, []api.Op{o})
			spoil(first)
			if told(second) != want || told(v) != before {
				t.Errorf("who writes over what Do(%s) gave changes %s, %s", toldOp(o), told(second), told(v))
			}
			third, _ := dry.Do(v, o)
			if told(third) != want {
				t.Errorf("Do(%s) = %s later; want %s", toldOp(o), told(third), want)
			}
		}
		none, _, _ := dry.All(v, nil)
		spoil(none)
		if told(v) != before {
			t.Errorf("who writes over what All of nothing gave changes %s", told(v))
		}
	}
}

// checkApart holds that no two lists of an answer share a place, their spare room neither.
func checkApart(t *testing.T, v api.View) {
	t.Helper()
	for i := range v.Volumes {
		mapped := v.Volumes[i].Mapped[:cap(v.Volumes[i].Mapped)]
		for k := range mapped {
			mapped[k] = api.Range{From: i, To: k}
		}
	}
	for i := range v.Volumes {
		mapped := v.Volumes[i].Mapped[:cap(v.Volumes[i].Mapped)]
		for k, r := range mapped {
			if r != (api.Range{From: i, To: k}) {
				t.Errorf("the list of volume %d shares its place %d with that of volume %d", i, k, r.From)
				return
			}
		}
	}
}

func TestR4NoTwoListsShare(t *testing.T) {
	for _, ops := range [][]api.Op{
		nil, {snap("b", "a")}, {clone("b", "a")}, {restore("s", "a")}, {restore("a", "s")}, {restore("a", "a")}, {rename("a", "z")}, {remove("s"), clone("s", "a")},
		{snap("b", "a"), snap("c", "b"), restore("a", "c"), restore("s", "c"), discard("a", 0, 10), fill("b", 5, 9), write("c", 9)},
		{resize("a", 1), clone("b", "a"), clone("c", "a"), resize("b", 30), fill("b", 0, 30), fill("c", 0, 1)},
	} {
		v, _ := laid(example())
		got, _, e := dry.All(v, ops)
		if e != api.OK {
			t.Errorf("All(%v) = %d", ops, e)
		}
		checkApart(t, got)
	}
}

// Who appends to a list of an answer changes no other list of it.
func TestR4AppendedTo(t *testing.T) {
	got, _, _ := dry.All(example(), []api.Op{snap("b", "a"), discard("a", 0, 3), restore("s", "a")})
	want := told(got)
	for _, x := range got.Volumes {
		_ = append(x.Mapped, ranges(-1, -2, -3, -4, -5, -6)...)
	}
	_ = append(got.Volumes, api.Volume{Name: "more"})
	if told(got) != want {
		t.Errorf("%s has become %s", want, told(got))
	}
}

// Asked twice, and many times at once, the answers are the same.
func TestR5AskedAgain(t *testing.T) {
	v := crowd()
	ops := append(allKinds()[:1:1], allKinds()[6:]...)
	want, _, _ := dry.All(v, ops)
	var all sync.WaitGroup
	answers := make([]string, 8)
	for i := range answers {
		all.Go(func() {
			for range 50 {
				got, _, _ := dry.All(v, ops)
				one, e := dry.Do(v, ops[i%len(ops)])
				if dry.Same(got, want) && e == api.OK {
					answers[i] = told(got)
				}
				spoil(got)
				spoil(one)
			}
		})
	}
	all.Wait()
	for i, got := range answers {
		if got != told(want) {
			t.Errorf("asked at once, number %d: %s; want %s", i, got, told(want))
		}
	}
}

// wild draws a view that may not be: of any numbers, in any order, ranges of all kinds.
func (d *drawing) wild() api.View {
	number := func() int {
		return d.number(0, 1, 2, 3, 5, 7, 10, 20, -1, -7, 64, 262144, 262145, 1<<30, 1<<30+1, math.MaxInt, math.MaxInt-1, math.MinInt, math.MinInt+1)
	}
	v := api.View{Capacity: number(), Free: number(), Next: number()}
	for range d.number(0, 1, 1, 2, 2, 3, 3, 4, 5, 5, 63, 64, 65, 100) {
		x := api.Volume{Name: d.name(), ID: number(), Size: number(), Origin: number(), Kind: number(), Partial: d.below(8) == 0}
		for range d.below(7) {
			x.Mapped = append(x.Mapped, api.Range{From: number(), To: number()})
		}
		v.Volumes = append(v.Volumes, x)
	}
	return v
}

// wildOp draws an operation with numbers of all kinds.
func (d *drawing) wildOp(v api.View) api.Op {
	w := d.wild()
	o := d.op(api.View{Capacity: 3})
	if len(v.Volumes) > 0 && o.Name != "" && d.below(5) > 0 {
		o.Name = v.Volumes[d.below(len(v.Volumes))].Name
	}
	if isOne(o.Kind, api.OpCreate, api.OpSnap, api.OpClone) && d.below(2) == 0 {
		o.Name = "new"
	}
	if len(v.Volumes) > 0 && o.Other != "" && o.Kind != api.OpRename {
		o.Other = v.Volumes[d.below(len(v.Volumes))].Name
	}
	if o.From != 0 && d.below(2) == 0 {
		o.From = w.Capacity
	}
	if o.To != 0 && d.below(2) == 0 {
		o.To = w.Next
	}
	return o
}

// Over views that may not be the calls end and do not panic; what is handed in stays, and what is handed out is new.
func TestP21_1ViewsThatMayNotBe(t *testing.T) {
	d := &drawing{seed: 9}
	met := map[api.Errno]int{}
	for range 12000 {
		v, all := laid(d.wild())
		before, array := spareOf(v), slices.Clone(all)
		o, p := d.wildOp(v), d.wildOp(v)
		got, e := dry.Do(v, o)
		met[e]++
		again, _ := dry.Do(v, o)
		if told(again) != told(got) || e != api.OK && told(got) != zero {
			t.Fatalf("Do(%s) over %s = %s, %s, %d", toldOp(o), before, told(got), told(again), e)
		}
		if !dry.Same(got, again) {
			t.Fatalf("Same(v, v) is false of %s", told(got))
		}
		checkApart(t, got)
		spoil(got)
		list, at, e := dry.All(v, []api.Op{o, p, o})
		if at < 0 || at > 2 || e != api.OK && told(list) != zero {
			t.Fatalf("All = %s, %d, %d", told(list), at, e)
		}
		checkApart(t, list)
		spoil(list)
		if spareOf(v) != before || !slices.Equal(all, array) {
			t.Fatalf("R4: %s has become %s", before, spareOf(v))
		}
	}
	checkMet(t, met, 50, api.OK, api.ErrActUnknown, api.ErrActTaken, api.ErrActSize, api.ErrActRange, api.ErrActPartial, api.ErrActChildren,
		api.ErrCatalogFull, api.ErrCatalogIDs)
}

// comb gives a view of so many volumes that map every second block of their size.
func comb(count int, size int) api.View {
	v := api.View{Capacity: 262144, Next: count + 1}
	for i := range count {
		x := api.Volume{Name: "v" + string(rune('a'+i/26)) + string(rune('a'+i%26)), ID: i + 1, Size: size}
		for l := 0; l < size; l += 2 {
			x.Mapped = append(x.Mapped, api.Range{From: l, To: l + 1})
		}
		v.Volumes = append(v.Volumes, x)
	}
	return v
}

// Many operations over a great view: it is not gone through for each of them.
func TestP21_2ManyOperationsOverAGreatView(t *testing.T) {
	v := comb(60, 20000)
	v.Volumes = append(v.Volumes, api.Volume{Name: "w", ID: 61, Size: 262144})
	v.Next = 62
	var ops []api.Op
	for l := 0; l < 262144; l += 2 {
		ops = append(ops, write("w", l))
	}
	for l := 262112; l >= 0; l -= 32 {
		ops = append(ops, discard("w", l, l+16), fill("w", l, l+32))
	}
	ops = append(ops, discard("vaa", 5, 15), fill("vab", 5, 15), resize("vac", 10001), clone("x", "vaa"))
	got, at, e := dry.All(v, ops)
	if at != 0 || e != api.OK {
		t.Fatalf("All = %d, %d", at, e)
	}
	w := got.Volumes[60]
	if w.Name != "w" || !slices.Equal(w.Mapped, ranges(0, 262144)) {
		t.Errorf("%s has %d ranges", w.Name, len(w.Mapped))
	}
	for i, want := range map[int]int{0: 9995, 1: 9995, 2: 5001, 3: 10000, 59: 10000, 61: 9995} {
		if n := len(got.Volumes[i].Mapped); n != want {
			t.Errorf("%s has %d ranges; want %d", got.Volumes[i].Name, n, want)
		}
	}
}
