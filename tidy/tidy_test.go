package tidy_test

import (
	"strings"
	"testing"

	"cistern/api"
	"cistern/dry"
	"cistern/tidy"
)

// checkOps holds what Ops gives of a list, where the chapter leaves no choice, and all that it promises besides.
func checkOps(t *testing.T, v api.View, text string, want string) {
	t.Helper()
	if got := checkList(t, v, list(t, text)); told(got) != want {
		t.Errorf("P25.1: Ops(%s) = %s; want %s", text, told(got), want)
	}
}

// checkStays holds that nothing of a list is idle or a pair, and that both calls leave it as it is.
func checkStays(t *testing.T, v api.View, text string) {
	t.Helper()
	if found := toSpare(v, list(t, text)); len(found) > 0 {
		t.Fatalf("%s: %v", text, found)
	}
	checkOps(t, v, text, text)
	if got, at, e := tidy.Once(v, list(t, text)); told(got) != text || at != -1 || e != api.OK {
		t.Errorf("P25.2: Once(%s) = %s, %d, %d", text, told(got), at, e)
	}
}

// checkFirst holds the place that Once gives, and its list.
func checkFirst(t *testing.T, v api.View, text string, want string, wantAt int) {
	t.Helper()
	got, at, e := tidy.Once(v, list(t, text))
	if told(got) != want || at != wantAt || e != api.OK {
		t.Errorf("P25.2: Once(%s) = %s, %d, %d; want %s, %d", text, told(got), at, e, want, wantAt)
	}
	checkList(t, v, list(t, text))
}

// checkError holds that both calls have an error, and nothing beside it.
func checkError(t *testing.T, v api.View, ops []api.Op, want api.Errno) {
	t.Helper()
	if got, e := tidy.Ops(v, ops); len(got) > 0 || e != want {
		t.Errorf("P25.1: Ops(%s) = %s, %d; want %d", told(ops), told(got), e, want)
	}
	if got, at, e := tidy.Once(v, ops); len(got) > 0 || at != 0 || e != want {
		t.Errorf("P25.2: Once(%s) = %s, %d, %d; want %d", told(ops), told(got), at, e, want)
	}
}

// The chapter's table of examples, in its order.
func TestP25_1TheExamples(t *testing.T) {
	v := example()
	checkOps(t, v, "resize a 10", "")
	checkOps(t, v, "resize a 20; resize a 5", "resize a 5")
	checkStays(t, v, "resize a 3; resize a 20")
	checkOps(t, v, "rename a to b; rename b to c", "rename a to c")
	checkOps(t, v, "rename a to b; rename b to a", "")
	checkOps(t, v, "discard a 4 8", "")
	checkOps(t, v, "discard a 0 2; discard a 2 4", "discard a 0 4")
	checkStays(t, v, "discard a 0 1; discard a 3 4")
	got := told(checkList(t, v, list(t, "fill a 0 4; fill a 4 8")))
	if got != "fill a 4 8" && got != "fill a 0 8" {
		t.Errorf("P25.1: %s", got)
	}
	checkStays(t, v, "create b 5; delete b")
	checkError(t, v, list(t, "delete z"), api.ErrActUnknown)
}

// The place that Once gives, in the chapter's words: of two that are the same one is left, and the place is behind it.
func TestP25_2TheExample(t *testing.T) {
	checkFirst(t, example(), "discard a 0 4; discard a 0 4", "discard a 0 4", 1)
}

// Lists of none, of one and of many.
func TestP25_1NoneOneAndMany(t *testing.T) {
	for _, v := range []api.View{example(), crowd(), {Capacity: 1, Next: 1}} {
		for _, ops := range [][]api.Op{nil, {}, make([]api.Op, 0, 4)} {
			if got := checkList(t, v, ops); len(got) > 0 {
				t.Errorf("Ops of none = %s", told(got))
			}
			if got, at, e := tidy.Once(v, ops); len(got) > 0 || at != -1 || e != api.OK {
				t.Errorf("Once of none = %s, %d, %d", told(got), at, e)
			}
		}
	}
	for _, text := range []string{
		"create n 5", "snap n of a", "clone n of s", "resize a 9", "resize a 11", "rename a to n", "delete s", "restore a from s", "restore s from a", "write a 0 1", "write a 9 0",
		"discard a 0 1", "discard a 3 10", "fill a 0 5", "fill a 9 10", "extend 101",
	} {
		checkStays(t, example(), text)
	}
	checkStays(t, example(), "create n 5; snap m of n; clone k of n; resize k 6; rename n to l; delete m; restore k from a; write k 7 1; discard k 1 2; fill k 9 10; extend 200")
}

// What one thing spared lets stand beside one another is looked at again, on both sides.
func TestP25_1OneBehindTheOther(t *testing.T) {
	v := example()
	checkOps(t, v, "resize a 10; rename a to q; resize q 10; rename q to a", "")
	checkOps(t, v, "discard a 0 1; rename a to b; rename b to a; discard a 1 2", "discard a 0 2")
	checkOps(t, v, "discard a 0 1; discard s 3 9; discard a 1 2", "discard a 0 2")
	checkOps(t, v, "discard a 0 1; discard a 3 4; discard a 1 3", "discard a 0 4")
	checkOps(t, v, "discard a 3 4; discard a 0 1; discard a 0 1; discard a 1 3", "discard a 0 4")
	checkOps(t, v, "resize a 12; resize a 14; resize a 13; resize a 10", "")
	checkOps(t, v, "resize a 3; resize a 20; resize a 15", "resize a 3; resize a 15")
	checkOps(t, v, "resize a 3; resize a 20; resize a 2", "resize a 2")
	checkOps(t, v, "resize a 3; resize a 20; resize a 3", "resize a 3")
	checkOps(t, v, "resize a 3; resize a 5; resize a 4; resize a 6; resize a 3", "resize a 3")
	checkOps(t, v, "resize a 3; discard a 1 1; resize a 3; resize a 2", "resize a 2")
	checkOps(t, v, "rename a to b; rename b to c; rename c to d; rename d to e", "rename a to e")
	checkOps(t, v, "rename a to b; rename s to t; rename t to s; rename b to a", "")
	checkOps(t, v, "rename a to b; rename s to t; rename t to u; rename b to a", "rename a to b; rename s to u; rename b to a")
	checkOps(t, v, "restore a from s; resize a 10; restore a from a; restore a from s; fill a 0 3", "restore a from s")
	checkOps(t, v, "fill a 4 5; fill a 6 7; fill a 5 6; discard a 8 9; fill a 7 8", "fill a 4 8")
	checkOps(t, v, "resize s 10; discard s 0 3; fill a 1 1; discard s 0 3; restore a from a; resize a 10", "discard s 0 3")
	for count := 1; count < 30; count++ {
		names := []string{"a"}
		for i := range count {
			names = append(names, "b"+strings.Repeat("0", i))
		}
		var there, back []string
		for i := range count {
			there = append(there, "rename "+names[i]+" to "+names[i+1])
			back = append(back, "rename "+names[count-i]+" to "+names[count-i-1])
		}
		checkOps(t, v, strings.Join(there, "; "), "rename a to "+names[count])
		checkOps(t, v, strings.Join(append(there, back...), "; "), "")
	}
}

// What All has against a list is the error, wherever it stands, whatever is to spare ahead of it and behind.
func TestP25_1WhatIsRefused(t *testing.T) {
	good := list(t, "resize a 10; resize a 12; resize a 15; discard a 0 1; rename a to b; rename b to c; write c 4 1; extend 200; restore c from c")
	for i := range len(good) + 1 {
		for _, bad := range []struct {
			o api.Op
			e api.Errno
		}{
			{api.Op{}, api.ErrActKind}, {api.Op{Kind: 12, Name: "s"}, api.ErrActKind}, {api.Op{Kind: api.OpResize, Name: "s", To: 10, From: 1}, api.ErrActForm},
			{api.Op{Kind: api.OpDelete, Name: "S"}, api.ErrActName}, {api.Op{Kind: api.OpWrite, Name: "s", Data: make([]byte, 511)}, api.ErrActData},
			{api.Op{Kind: api.OpRestore, Name: "z", Other: "z"}, api.ErrActUnknown}, {api.Op{Kind: api.OpRename, Name: "s", Other: "s"}, api.ErrActTaken},
			{api.Op{Kind: api.OpResize, Name: "s"}, api.ErrActSize}, {api.Op{Kind: api.OpDiscard, Name: "s", From: 3, To: 2}, api.ErrActRange},
			{api.Op{Kind: api.OpFill, Name: "s", From: 0, To: 11}, api.ErrActRange}, {api.Op{Kind: api.OpExtend, To: 5}, api.ErrActSize},
		} {
			ops := append(append(append([]api.Op{}, good[:i]...), bad.o), good[i:]...)
			checkError(t, example(), ops, bad.e)
			checkError(t, example(), append(ops, api.Op{Kind: 99}, bad.o), bad.e)
		}
	}
	checkError(t, example(), list(t, "resize a 10; delete a"), api.ErrActChildren)
	checkError(t, example(), list(t, "delete s; delete s; resize a 10"), api.ErrActUnknown)
	checkError(t, example(), list(t, "rename a to s; rename s to a"), api.ErrActTaken)
	checkError(t, crowd(), list(t, "discard p 3 4"), api.ErrActPartial)
	checkError(t, crowd(), list(t, "resize p 40"), api.ErrActPartial)
	checkError(t, crowd(), list(t, "restore p from p"), api.ErrActPartial)
	last := example()
	last.Next = api.MaxID + 1
	checkError(t, last, list(t, "resize a 10; create n 5"), api.ErrCatalogIDs)
	full := example()
	full.Volumes = full.Volumes[:1]
	for i := range 63 {
		full.Volumes = append(full.Volumes, api.Volume{Name: "b" + string(rune('0'+i/10)) + string(rune('0'+i%10)), ID: i + 2, Size: 1})
	}
	full.Next = 90
	checkError(t, full, list(t, "resize a 10; create n 5"), api.ErrCatalogFull)
	checkOps(t, full, "resize a 10; delete b00; create n 5; resize b01 1", "delete b00; create n 5")
}

// Once spares at the first place at which it finds something.
func TestP25_2ThePlace(t *testing.T) {
	v := example()
	checkFirst(t, v, "resize a 10", "", 0)
	checkFirst(t, v, "delete s; resize a 10", "delete s", 1)
	checkFirst(t, v, "resize a 10; delete s", "delete s", 0)
	checkFirst(t, v, "resize a 3; resize a 3", "resize a 3", 1)
	checkFirst(t, v, "resize a 20; resize a 5", "resize a 5", 0)
	checkFirst(t, v, "delete s; write a 1 7; resize a 20; resize a 5; extend 200", "delete s; write a 1 7; resize a 5; extend 200", 2)
	checkFirst(t, v, "rename a to b; rename b to c; rename c to d", "rename a to c; rename c to d", 0)
	checkFirst(t, v, "rename a to b; rename b to a", "", 0)
	checkFirst(t, v, "create n 4; rename a to b; rename b to a", "create n 4", 1)
	checkFirst(t, v, "discard a 0 2; discard a 2 4; discard a 3 4", "discard a 0 4; discard a 3 4", 0)
	checkFirst(t, v, "discard a 0 4; discard a 1 2", "discard a 0 4", 1)
	checkFirst(t, v, "write a 1 7; write a 1 7; fill a 0 2", "write a 1 7; write a 1 7", 2)
	checkFirst(t, v, "write a 1 7; fill a 0 2; write a 1 8", "write a 1 7; write a 1 8", 1)
	checkFirst(t, v, "create b 5; fill b 0 3; fill b 0 2", "create b 5; fill b 0 3", 2)
	checkFirst(t, v, "restore a from s; restore a from s", "restore a from s", 1)
	// Behind what is spared the same can stand again: then the list is another one only where it ends.
	checkFirst(t, v, "restore s from s; restore s from s; restore s from s", "restore s from s; restore s from s", 2)
	checkFirst(t, v, "discard s 0 0; discard s 0 0; delete s", "discard s 0 0; delete s", 1)
}

// What Ops gives is what Once comes to, when it is asked again and again.
func TestP25_3OnceAgainAndAgain(t *testing.T) {
	d := &drawing{seed: 3}
	for range 2000 {
		v := d.view()
		ops := d.list(v, 12)
		want, e := tidy.Ops(v, ops)
		if e != api.OK {
			continue
		}
		at := 0
		for times := len(ops) + 1; at >= 0 && times > 0; times-- {
			ops, at, _ = tidy.Once(v, ops)
		}
		if !isSame(ops, want) || at != -1 {
			t.Fatalf("Ops = %s; by Once %s, %d", told(want), told(ops), at)
		}
	}
}

// The view that is handed in may have volumes of all sorts; those that the list does not name turn nothing.
func TestP25_1OtherVolumes(t *testing.T) {
	for _, text := range []string{"resize a 20; resize a 5", "discard a 0 2; discard a 2 4; fill a 2 4", "rename a to z; resize z 10; rename z to y", "create n 40; fill n 3 9; fill n 9 20; snap m of n; restore n from m"} {
		want := told(checkList(t, example(), list(t, text)))
		v := example()
		v.Volumes = append(v.Volumes, api.Volume{Name: "t", ID: 60, Size: 262144, Mapped: ranges(0, 262144)}, api.Volume{Name: "u", ID: 61, Size: 1, Partial: true})
		v.Capacity, v.Free, v.Next = 262144, 0, 70
		if got, e := tidy.Ops(v, list(t, text)); told(got) != want || e != api.OK {
			t.Errorf("Ops(%s) = %s, %d; want %s", text, told(got), e, want)
		}
		if _, _, e := dry.All(v, list(t, text)); e != api.OK {
			t.Errorf("All(%s) = %d", text, e)
		}
	}
}
