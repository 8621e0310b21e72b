package dry_test

import (
	"fmt"
	"strings"
	"testing"

	"cistern/api"
	"cistern/dry"
)

const asExample = "100 90 3; a 1 10 0 0 0..4; s 2 10 1 1 0..3"

// The chapter's table of examples, in its order.
func TestP21_1TheExamples(t *testing.T) {
	for _, c := range []struct {
		o    api.Op
		want string
	}{
		{write("a", 5), "100 90 3; a 1 10 0 0 0..4 5..6; s 2 10 1 1 0..3"},
		{write("a", 4), "100 90 3; a 1 10 0 0 0..5; s 2 10 1 1 0..3"},
		{fill("a", 2, 8), "100 90 3; a 1 10 0 0 0..8; s 2 10 1 1 0..3"},
		{discard("a", 1, 2), "100 90 3; a 1 10 0 0 0..1 2..4; s 2 10 1 1 0..3"},
		{discard("a", 5, 9), asExample},
		{resize("a", 3), "100 90 3; a 1 3 0 0 0..3; s 2 10 1 1 0..3"},
		{clone("b", "s"), "100 90 4; a 1 10 0 0 0..4; b 3 10 2 0 0..3; s 2 10 1 1 0..3"},
		{snap("b", "a"), "100 90 4; a 1 10 0 0 0..4; b 3 10 1 1 0..4; s 2 10 1 1 0..3"},
		{restore("a", "s"), "100 90 3; a 1 10 0 0 0..3; s 2 10 1 1 0..3"},
		{restore("a", "a"), asExample},
		{rename("a", "z"), "100 90 3; s 2 10 1 1 0..3; z 1 10 0 0 0..4"},
	} {
		checkDo(t, example(), c.o, c.want)
	}
	checkRefused(t, example(), remove("a"), api.ErrActChildren)
	checkDo(t, example(), remove("s"), "100 90 3; a 1 10 0 0 0..4")
	checkRefused(t, example(), create("a", 5), api.ErrActTaken)
	checkRefused(t, example(), write("a", 10), api.ErrActRange)
	checkRefused(t, example(), extend(100), api.ErrActSize)
}

func TestP21_2TheExamples(t *testing.T) {
	checkAll(t, example(), "100 90 4; a 3 5 0 0", 0, api.OK, remove("s"), remove("a"), create("a", 5))
	checkAll(t, example(), zero, 1, api.ErrActUnknown, remove("s"), remove("s"))
	checkAll(t, example(), asExample, 0, api.OK)
}

func TestP21_3TheExamples(t *testing.T) {
	v := example()
	v.Free = 1
	checkSame(t, example(), v, true)
	v = example()
	v.Next = 4
	checkSame(t, example(), v, false)
}

func checkAll(t *testing.T, v api.View, want string, wantAt int, wantE api.Errno, ops ...api.Op) {
	t.Helper()
	if got, at, e := dry.All(v, ops); told(got) != want || at != wantAt || e != wantE {
		t.Errorf("All(%v) = %s, %d, %d; want %s, %d, %d", ops, told(got), at, e, want, wantAt, wantE)
	}
}

// checkSame asks of two views both ways round, and of each with itself.
func checkSame(t *testing.T, a api.View, b api.View, want bool) {
	t.Helper()
	if dry.Same(a, b) != want || dry.Same(b, a) != want {
		t.Errorf("Same(%v, %v) is not %v", a, b, want)
	}
	if !dry.Same(a, a) || !dry.Same(b, copied(b)) {
		t.Errorf("a view is not the same as itself: %v, %v", a, b)
	}
}

// Each row of the table of kinds, over a crowd of volumes.
func TestP21_1WhatIsDone(t *testing.T) {
	const (
		a = "; a 1 40 0 0 0..4 6..7 30..40"
		c = "; c 4 50 2 0 0..1 45..50"
		e = "; e 9 40 0 0"
		p = "; p 5 40 0 0 0..2 half"
		q = "; q 11 3 0 0 half"
		s = "; s 3 20 1 1 0..3"
		r = "; t 7 40 5 1 1..2"
	)
	const head, next = "100 60 12", "100 60 13"
	checkAll(t, crowd(), head+a+c+e+p+q+s+r, 0, api.OK)
	for _, x := range []struct {
		o    api.Op
		want string
	}{
		{create("b", 1), next + a + "; b 12 1 0 0" + c + e + p + q + s + r},
		{create("b", 262144), next + a + "; b 12 262144 0 0" + c + e + p + q + s + r},
		{create("~", 7), next + a + c + e + p + q + s + r + "; ~ 12 7 0 0"},
		{snap("b", "a"), next + a + "; b 12 40 1 1 0..4 6..7 30..40" + c + e + p + q + s + r},
		{snap("a0", "s"), next + a + "; a0 12 20 3 1 0..3" + c + e + p + q + s + r},
		{snap("z", "e"), next + a + c + e + p + q + s + r + "; z 12 40 9 1"},
		{clone("b", "c"), next + a + "; b 12 50 4 0 0..1 45..50" + c + e + p + q + s + r},
		{clone("s@1", "s"), next + a + c + e + p + q + s + "; s@1 12 20 3 0 0..3" + r},
		{resize("a", 1), head + "; a 1 1 0 0 0..1" + c + e + p + q + s + r},
		{resize("a", 262144), head + "; a 1 262144 0 0 0..4 6..7 30..40" + c + e + p + q + s + r},
		{resize("s", 2), head + a + c + e + p + q + "; s 3 2 1 1 0..2" + r},
		{resize("e", 1), head + a + c + "; e 9 1 0 0" + p + q + s + r},
		{rename("a", "d"), head + c + "; d 1 40 0 0 0..4 6..7 30..40" + e + p + q + s + r},
		{rename("a", "aa"), head + "; aa 1 40 0 0 0..4 6..7 30..40" + c + e + p + q + s + r},
		{rename("t", "b"), head + a + "; b 7 40 5 1 1..2" + c + e + p + q + s},
		{remove("s"), head + a + c + e + p + q + r},
		{remove("t"), head + a + c + e + p + q + s},
		{remove("q"), head + a + c + e + p + s + r},
		{restore("a", "s"), head + "; a 1 20 0 0 0..3" + c + e + p + q + s + r},
		{restore("s", "a"), head + a + c + e + p + q + "; s 3 40 1 1 0..4 6..7 30..40" + r},
		{restore("c", "e"), head + a + "; c 4 40 2 0" + e + p + q + s + r},
		{restore("e", "c"), head + a + c + "; e 9 50 0 0 0..1 45..50" + p + q + s + r},
		{restore("c", "c"), head + a + c + e + p + q + s + r},
		{write("e", 0), head + a + c + "; e 9 40 0 0 0..1" + p + q + s + r},
		{write("e", 39), head + a + c + "; e 9 40 0 0 39..40" + p + q + s + r},
		{write("a", 3), head + a + c + e + p + q + s + r},
		{discard("a", 0, 40), head + "; a 1 40 0 0" + c + e + p + q + s + r},
		{discard("a", 3, 31), head + "; a 1 40 0 0 0..3 31..40" + c + e + p + q + s + r},
		{discard("a", 6, 7), head + "; a 1 40 0 0 0..4 30..40" + c + e + p + q + s + r},
		{discard("a", 2, 2), head + a + c + e + p + q + s + r},
		{fill("a", 4, 6), head + "; a 1 40 0 0 0..7 30..40" + c + e + p + q + s + r},
		{fill("a", 5, 30), head + "; a 1 40 0 0 0..4 5..40" + c + e + p + q + s + r},
		{fill("e", 8, 40), head + a + c + "; e 9 40 0 0 8..40" + p + q + s + r},
		{fill("e", 3, 3), head + a + c + e + p + q + s + r},
		{extend(101), "101 60 12" + a + c + e + p + q + s + r},
		{extend(262144), "262144 60 12" + a + c + e + p + q + s + r},
	} {
		checkDo(t, crowd(), x.o, x.want)
	}
}

// A new volume is whole, whatever stands beside it.
func TestP21_1NewVolumesAreNotPartial(t *testing.T) {
	for _, o := range []api.Op{create("n", 3), snap("n", "t"), clone("n", "t"), snap("n", "a"), clone("n", "e")} {
		v, e := dry.Do(crowd(), o)
		found := false
		for _, x := range v.Volumes {
			found = found || x.Name == "n" && !x.Partial && x.ID == 12
		}
		if !found || e != api.OK {
			t.Errorf("Do(%s) = %s, %d", toldOp(o), told(v), e)
		}
	}
}

// Volumes stay by name, byte by byte, a beginning of a name first, behind each create and each rename.
func TestP21_1VolumesStayByName(t *testing.T) {
	names := []string{"~", "a", "a-", "a.", "a0", "a9", "a@", "a_", "aa", "ab", "a~", "b", "z", "z-", "zz", strings.Repeat("a", 31)}
	for i := range names {
		v := api.View{Capacity: 1, Next: 1}
		var ops []api.Op
		for k := range names {
			ops = append(ops, create(names[(i+k*5)%len(names)], 1))
		}
		v, _, e := dry.All(v, ops)
		checkRising(t, v, len(names), e)
		for k := range names {
			v, _, e := dry.All(v, []api.Op{rename(names[k], "m"), rename("m", "n"), create("m", 2), remove("m")})
			checkRising(t, v, len(names), e)
		}
	}
}

func checkRising(t *testing.T, v api.View, count int, e api.Errno) {
	t.Helper()
	if len(v.Volumes) != count || e != api.OK {
		t.Fatalf("%d volumes, %d; want %d", len(v.Volumes), e, count)
	}
	for i := 1; i < count; i++ {
		if v.Volumes[i-1].Name >= v.Volumes[i].Name {
			t.Errorf("volume %d is %q, the next one %q", i-1, v.Volumes[i-1].Name, v.Volumes[i].Name)
		}
	}
}

// What is free stays as it was, whatever is done.
func TestP21_1FreeStays(t *testing.T) {
	for _, free := range []int{0, 1, 100} {
		v := example()
		v.Free = free
		for _, o := range allKinds() {
			if got, e := dry.Do(v, o); got.Free != free || e != api.OK {
				t.Errorf("Do(%s) over a view of which %d are free = %s, %d", toldOp(o), free, told(got), e)
			}
		}
	}
	full := one(5)
	full.Free = 0
	checkDo(t, full, write("a", 0), "50 0 9; a 8 5 0 0 0..1")
	checkDo(t, full, fill("a", 0, 5), "50 0 9; a 8 5 0 0 0..5")
	checkDo(t, full, extend(262144), "262144 0 9; a 8 5 0 0")
}

// All over lists: of none, of one, refused first, in the midst and last.
func TestP21_2WhichOneIsRefused(t *testing.T) {
	good := []api.Op{create("n", 5), write("n", 4), snap("m", "n"), discard("n", 0, 5), restore("n", "m"), remove("m"), rename("n", "o"), extend(200)}
	checkAll(t, example(), "200 90 5; a 1 10 0 0 0..4; o 3 5 0 0 4..5; s 2 10 1 1 0..3", 0, api.OK, good...)
	for i := range len(good) + 1 {
		for _, bad := range []struct {
			o api.Op
			e api.Errno
		}{{api.Op{}, api.ErrActKind}, {remove("zz"), api.ErrActUnknown}, {create("a", 1), api.ErrActTaken}, {extend(100), api.ErrActSize}, {write("a", 10), api.ErrActRange}} {
			ops := append([]api.Op{}, good[:i]...)
			ops = append(append(ops, bad.o), good[i:]...)
			checkAll(t, example(), zero, i, bad.e, ops...)
			checkAll(t, example(), zero, i, bad.e, append(ops, api.Op{Kind: 99}, remove("zz"))...)
		}
	}
	checkAll(t, api.View{}, zero, 0, api.OK)
	if v, at, e := dry.All(example(), nil); told(v) != asExample || at != 0 || e != api.OK {
		t.Errorf("All(v, nil) = %s, %d, %d", told(v), at, e)
	}
	if v, at, e := dry.All(example(), []api.Op{}); told(v) != asExample || at != 0 || e != api.OK {
		t.Errorf("All(v, none) = %s, %d, %d", told(v), at, e)
	}
}

// An operation meets what those ahead of it have left.
func TestP21_2OneBehindTheOther(t *testing.T) {
	checkAll(t, one(10), "50 7 9; a 8 10 0 0 0..10", 0, api.OK, write("a", 0), write("a", 2), write("a", 1), fill("a", 4, 10), write("a", 3))
	checkAll(t, one(10, ranges(0, 10)...), "50 7 9; a 8 20 0 0 0..5", 0, api.OK, resize("a", 5), resize("a", 20))
	checkAll(t, one(10), "50 7 11; b 10 3 9 0; c 9 3 0 0", 0, api.OK, remove("a"), create("a", 3), rename("a", "c"), clone("b", "c"))
	checkAll(t, one(10), zero, 1, api.ErrActChildren, snap("s", "a"), remove("a"), remove("a"))
	checkAll(t, one(10), zero, 1, api.ErrActSize, extend(51), extend(51))
	checkAll(t, one(10), "52 7 9; a 8 10 0 0", 0, api.OK, extend(51), extend(52))
}

// 64 volumes one behind the other, and one more.
func TestP21_2AsManyVolumesAsMayBe(t *testing.T) {
	var ops []api.Op
	for i := range 64 {
		ops = append(ops, create(fmt.Sprintf("v%d", i), 3))
	}
	v, at, e := dry.All(api.View{Capacity: 9, Next: 1}, ops)
	if len(v.Volumes) != 64 || v.Next != 65 || at != 0 || e != api.OK {
		t.Fatalf("%d volumes, next %d, %d, %d", len(v.Volumes), v.Next, at, e)
	}
	if _, at, e := dry.All(api.View{Capacity: 9, Next: 1}, append(ops, create("w", 3))); at != 64 || e != api.ErrCatalogFull {
		t.Errorf("the 65th volume: %d, %d", at, e)
	}
	for _, o := range []api.Op{create("w", 3), snap("w", "v1"), clone("w", "v1")} {
		checkRefused(t, v, o, api.ErrCatalogFull)
	}
	for _, o := range []api.Op{rename("v0", "w"), remove("v0"), restore("v0", "v1"), resize("v0", 9), write("v0", 2), fill("v0", 0, 3), discard("v0", 0, 3), extend(10)} {
		check(t, v, o, api.OK)
	}
	if v, _, e := dry.All(v, []api.Op{remove("v0"), create("w", 3)}); len(v.Volumes) != 64 || v.Next != 66 || e != api.OK {
		t.Errorf("one for another: %d volumes, next %d, %d", len(v.Volumes), v.Next, e)
	}
}

// Views that differ in one thing each.
func TestP21_3WhatIsLookedAt(t *testing.T) {
	for name, turn := range map[string]func(v *api.View){
		"Capacity":             func(v *api.View) { v.Capacity++ },
		"Next":                 func(v *api.View) { v.Next-- },
		"Name":                 func(v *api.View) { v.Volumes[1].Name = "t" },
		"ID":                   func(v *api.View) { v.Volumes[1].ID = 1 },
		"Size":                 func(v *api.View) { v.Volumes[0].Size = 11 },
		"Origin":               func(v *api.View) { v.Volumes[1].Origin = 0 },
		"Kind":                 func(v *api.View) { v.Volumes[0].Kind = api.KindSnap },
		"Partial":              func(v *api.View) { v.Volumes[0].Partial = true },
		"From":                 func(v *api.View) { v.Volumes[1].Mapped[0].From = 1 },
		"To":                   func(v *api.View) { v.Volumes[1].Mapped[0].To = 4 },
		"a range more":         func(v *api.View) { v.Volumes[0].Mapped = ranges(0, 4, 5, 6) },
		"an empty range more":  func(v *api.View) { v.Volumes[0].Mapped = ranges(0, 4, 4, 4) },
		"the same in two":      func(v *api.View) { v.Volumes[0].Mapped = ranges(0, 2, 2, 4) },
		"no range":             func(v *api.View) { v.Volumes[0].Mapped = nil },
		"a volume less":        func(v *api.View) { v.Volumes = v.Volumes[:1] },
		"another volume less":  func(v *api.View) { v.Volumes = v.Volumes[1:] },
		"no volume":            func(v *api.View) { v.Volumes = nil },
		"a volume more":        func(v *api.View) { v.Volumes = append(v.Volumes, api.Volume{Name: "t", ID: 3, Size: 1}) },
		"an empty volume more": func(v *api.View) { v.Volumes = append(v.Volumes, api.Volume{}) },
		"another order":        func(v *api.View) { v.Volumes[0], v.Volumes[1] = v.Volumes[1], v.Volumes[0] },
	} {
		v := example()
		turn(&v)
		checkSame(t, example(), v, false)
		if t.Failed() {
			t.Fatalf("what differs: %s", name)
		}
	}
	for _, free := range []int{0, 90, 100, -1, 1 << 40} {
		v := example()
		v.Free = free
		checkSame(t, example(), v, true)
	}
}

// Nil and empty lists are one (R1), and any two views may be asked.
func TestP21_3NilAndEmptyLists(t *testing.T) {
	bare := api.View{Capacity: 9, Next: 2, Volumes: []api.Volume{{Name: "a", ID: 1, Size: 4}}}
	empty := api.View{Capacity: 9, Next: 2, Volumes: []api.Volume{{Name: "a", ID: 1, Size: 4, Mapped: []api.Range{}}}}
	spare := api.View{Capacity: 9, Next: 2, Volumes: []api.Volume{{Name: "a", ID: 1, Size: 4, Mapped: ranges(0, 4)[:0]}}}
	checkSame(t, bare, empty, true)
	checkSame(t, bare, spare, true)
	checkSame(t, empty, spare, true)
	checkSame(t, api.View{}, api.View{Volumes: []api.Volume{}}, true)
	checkSame(t, api.View{}, api.View{Free: 5, Volumes: make([]api.Volume, 0, 3)}, true)
	checkSame(t, api.View{}, example(), false)
	checkSame(t, api.View{}, api.View{Capacity: -1}, false)
	wild := api.View{Capacity: -5, Next: -1, Volumes: []api.Volume{{Name: "\x00", Mapped: ranges(9, 3, -4, 100)}, {}, {}}}
	checkSame(t, wild, copied(wild), true)
	checkSame(t, wild, api.View{Capacity: -5, Next: -1, Volumes: []api.Volume{{Name: "\x00", Mapped: ranges(3, 9, -4, 100)}, {}, {}}}, false)
}
