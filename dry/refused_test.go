package dry_test

import (
	"fmt"
	"math"
	"strings"
	"testing"

	"cistern/api"
	"cistern/dry"
)

// choices gives operations of a kind with all of these fields, each in turn with all of the others.
func choices(kind int) []api.Op {
	var out []api.Op
	for _, name := range []string{"", "A", "z", "a", "c", "p"} {
		for _, other := range []string{"", "-", "z", "a", "c", "p"} {
			for _, from := range []int{0, -1, 3, 40} {
				for _, to := range []int{0, -1, 1, 30, 40, 41, 101, 262144, 262145} {
					for _, size := range []int{0, 512, 511} {
						out = append(out, api.Op{Kind: kind, Name: name, Other: other, From: from, To: to, Data: make([]byte, size)})
					}
				}
			}
		}
	}
	return out
}

// fullCrowd gives the crowd with so many volumes more that there are 64.
func fullCrowd() api.View {
	v := crowd()
	for i := len(v.Volumes); i < 64; i++ {
		v.Volumes = append(v.Volumes, api.Volume{Name: fmt.Sprintf("v%02d", i), ID: 100 + i, Size: 1})
	}
	v.Next = 1000
	return v
}

// lastCrowd gives the crowd, and no ID is left.
func lastCrowd() api.View {
	v := crowd()
	v.Next = 1<<30 + 1
	return v
}

// Of all errors that hold the first one is answered.
func TestP21_1TheOrderOfErrors(t *testing.T) {
	met := map[[3]int]bool{}
	for _, v := range []api.View{crowd(), fullCrowd(), lastCrowd()} {
		m := modelOf(v)
		for kind := -1; kind <= 12; kind++ {
			for _, o := range choices(kind) {
				h := m.holds(o)
				first, _ := m.answer(o)
				for n := range h {
					met[[3]int{kind, first, n}] = true
				}
				if first != 0 {
					checkRefused(t, v, o, h[first])
				} else {
					checkAsModel(t, v, o)
				}
			}
			if t.Failed() {
				return
			}
		}
	}
	checkPairs(t, met)
}

// checkPairs holds that of each kind all errors were met first, with each that comes behind it and can hold too.
func checkPairs(t *testing.T, met map[[3]int]bool) {
	t.Helper()
	for kind, errors := range map[int][]int{
		1: {2, 3, 6, 7, 11}, 2: {2, 3, 5, 6, 9, 11}, 3: {2, 3, 5, 6, 9, 11}, 4: {2, 3, 5, 7, 9}, 5: {2, 3, 5, 6, 9}, 6: {2, 3, 5, 10},
		7: {2, 3, 5, 9}, 8: {2, 3, 4, 5, 8, 9}, 9: {2, 3, 5, 8, 9}, 10: {2, 3, 5, 8, 9}, 11: {2, 7},
	} {
		for i, first := range errors {
			for _, other := range errors[i:] {
				if !cannot(kind, first, other) && !met[[3]int{kind, first, other}] {
					t.Errorf("kind %d: error %d was not met ahead of error %d", kind, first, other)
				}
			}
		}
	}
}

// cannot tells which errors cannot hold together: a volume that is not there, or has no name, is not taken, not Partial and
// has no children. Where a kind uses two names, the other one can be so.
func cannot(kind int, first int, other int) bool {
	switch {
	case first == 3 && other == 6:
		return kind == api.OpCreate
	case first == 3 && (other == 9 || other == 10):
		return !isOne(kind, api.OpSnap, api.OpClone, api.OpRename, api.OpRestore)
	case first == 5 && (other == 9 || other == 10):
		return kind != api.OpRestore
	}
	return false
}

func TestP21_1WhichKindsThereAre(t *testing.T) {
	for _, kind := range []int{math.MinInt, -1, 0, 12, 13, 255, 256, 257, 1 << 32, math.MaxInt} {
		for _, o := range choices(kind) {
			checkRefused(t, example(), o, api.ErrActKind)
		}
	}
	for i, o := range allKinds() {
		if check(t, example(), o, api.OK); o.Kind != i+1 {
			t.Errorf("operation %d is of kind %d", i, o.Kind)
		}
	}
}

// Each field that a kind does not use, one at a time, not zero.
func TestP21_1FieldsThatAreNotUsed(t *testing.T) {
	for _, o := range allKinds() {
		for field, set := range map[string][]func(o *api.Op){
			"N": {func(o *api.Op) { o.Name = "a" }, func(o *api.Op) { o.Name = "\x00" }},
			"O": {func(o *api.Op) { o.Other = "a" }, func(o *api.Op) { o.Other = "A" }, func(o *api.Op) { o.Other = o.Name + "~" }},
			"F": {func(o *api.Op) { o.From = 1 }, func(o *api.Op) { o.From = -1 }, func(o *api.Op) { o.From = math.MaxInt }, func(o *api.Op) { o.From = math.MinInt }},
			"T": {func(o *api.Op) { o.To = 1 }, func(o *api.Op) { o.To = -1 }, func(o *api.Op) { o.To = math.MaxInt }, func(o *api.Op) { o.To = math.MinInt }},
			"D": {func(o *api.Op) { o.Data = []byte{0} }, func(o *api.Op) { o.Data = make([]byte, 512) }},
		} {
			if strings.Contains(uses(o.Kind), field) {
				continue
			}
			for _, change := range set {
				bad := o
				change(&bad)
				checkRefused(t, example(), bad, api.ErrActForm)
			}
		}
		// An empty list is none (R1).
		if o.Kind != api.OpWrite {
			o.Data = make([]byte, 0, 512)
			check(t, example(), o, api.OK)
		}
	}
}

// Names of each length, and with each byte at the first place and behind it.
func TestP21_1WhichNamesThereMayBe(t *testing.T) {
	names := []string{"", "~", strings.Repeat("a", 31), "~" + strings.Repeat("@", 30), strings.Repeat("a", 32), strings.Repeat("a", 300), "a\x00", "aé", "é"}
	for b := range 256 {
		sign := string([]byte{byte(b)})
		names = append(names, sign, sign+"a", "b"+sign, "b"+sign+"a", strings.Repeat("b", 30)+sign, strings.Repeat("b", 31)+sign)
	}
	for _, name := range names {
		if name == "a" || name == "s" {
			continue
		}
		isNew, isThere := api.OK, api.ErrActUnknown
		if !isName(name) {
			isNew, isThere = api.ErrActName, api.ErrActName
		}
		for _, o := range []api.Op{create(name, 5), snap(name, "a"), clone(name, "a"), rename("a", name)} {
			check(t, example(), o, isNew)
		}
		for _, o := range []api.Op{snap("n", name), clone("n", name), resize(name, 5), rename(name, "n"), remove(name), restore(name, "a"), restore("a", name), write(name, 0), discard(name, 0, 0), fill(name, 0, 0)} {
			check(t, example(), o, isThere)
		}
	}
}

// Names that are there, that are not, and twice the same.
func TestP21_1WhichVolumesAreThere(t *testing.T) {
	for _, o := range []api.Op{resize("z", 0), rename("z", "a"), rename("z", "z"), remove("z"), restore("z", "a"), restore("a", "z"), restore("z", "z"), write("z", -1), discard("z", 9, 3), fill("z", 0, 99), snap("a", "z"), clone("z", "z"), snap("n", "z"), clone("p", "z")} {
		checkRefused(t, crowd(), o, api.ErrActUnknown)
	}
	for _, o := range []api.Op{create("a", 0), create("p", 5), snap("a", "a"), snap("c", "p"), clone("s", "a"), clone("p", "p"), rename("a", "a"), rename("a", "p"), rename("p", "a"), rename("p", "p")} {
		checkRefused(t, crowd(), o, api.ErrActTaken)
	}
	for _, o := range []api.Op{create("a", 5), snap("s", "a"), clone("a", "s")} {
		checkRefused(t, fullCrowd(), o, api.ErrActTaken)
		checkRefused(t, lastCrowd(), o, api.ErrActTaken)
	}
	for _, name := range []string{"as", "aa", "", "b", "sa"} {
		if _, e := dry.Do(example(), remove(name)); e == api.OK {
			t.Errorf("Do(Delete %q) is done", name)
		}
	}
}

func TestP21_1WhichDataThereMayBe(t *testing.T) {
	for _, size := range []int{0, 1, 511, 513, 1024, 100000} {
		for _, name := range []string{"a", "zz", "p"} {
			for _, from := range []int{0, -1, 40} {
				o := write(name, from)
				o.Data = make([]byte, size)
				checkRefused(t, crowd(), o, api.ErrActData)
			}
		}
	}
	none := write("a", 0)
	none.Data = nil
	checkRefused(t, crowd(), none, api.ErrActData)
}

func TestP21_1WhichSizesThereMayBe(t *testing.T) {
	for _, to := range []int{math.MinInt, -1, 0, 262145, math.MaxInt} {
		for _, o := range []api.Op{create("n", to), resize("a", to), resize("p", to), extend(to)} {
			checkRefused(t, crowd(), o, api.ErrActSize)
		}
		checkRefused(t, fullCrowd(), create("n", to), api.ErrActSize)
		checkRefused(t, lastCrowd(), create("n", to), api.ErrActSize)
	}
	for _, to := range []int{1, 2, 262143, 262144} {
		for _, o := range []api.Op{create("n", to), resize("a", to), resize("e", to)} {
			checkAsModel(t, crowd(), o)
			check(t, crowd(), o, api.OK)
		}
	}
	for _, capacity := range []int{1, 2, 100, 262142, 262143, 262144} {
		v := crowd()
		v.Capacity = capacity
		for _, to := range []int{1, 2, 3, 99, 100, 101, 262142, 262143, 262144, 262145} {
			want := api.OK
			if to <= capacity || to > 262144 {
				want = api.ErrActSize
			}
			check(t, v, extend(to), want)
			if got, _ := dry.Do(v, extend(to)); want == api.OK && got.Capacity != to {
				t.Errorf("behind Extend %d the capacity is %d", to, got.Capacity)
			}
		}
	}
}

func TestP21_1WhichRangesThereMayBe(t *testing.T) {
	ends := []int{math.MinInt, -33, -1, 0, 1, 7, 8, 31, 32, 33, 39, 40, 41, 72, 73, math.MaxInt}
	for _, name := range []string{"a", "e", "p"} {
		bad := api.OK
		if name == "p" {
			bad = api.ErrActPartial
		}
		for _, from := range ends {
			want := bad
			if from < 0 || from >= 40 {
				want = api.ErrActRange
			}
			check(t, crowd(), write(name, from), want)
			for _, to := range ends {
				want := bad
				if from < 0 || to > 40 || from > to {
					want = api.ErrActRange
				}
				check(t, crowd(), discard(name, from, to), want)
				if want == bad && to-from > 32 {
					want = api.ErrActRange
				}
				check(t, crowd(), fill(name, from, to), want)
			}
		}
	}
	large := one(262144)
	for _, o := range []api.Op{write("a", 262143), discard("a", 0, 262144), fill("a", 262112, 262144)} {
		check(t, large, o, api.OK)
	}
	for _, o := range []api.Op{write("a", 262144), discard("a", 0, 262145), fill("a", 262111, 262144)} {
		check(t, large, o, api.ErrActRange)
	}
}

// A volume that is Partial can be deleted, and else nothing.
func TestP21_1PartialVolumes(t *testing.T) {
	for _, o := range []api.Op{
		resize("p", 5), resize("p", 40), rename("p", "n"), restore("p", "a"), restore("a", "p"), restore("p", "p"), restore("q", "p"), write("p", 0),
		discard("p", 0, 40), discard("p", 3, 3), fill("p", 3, 4), fill("p", 0, 0), snap("n", "p"), clone("n", "p"), clone("n", "q"),
	} {
		checkRefused(t, crowd(), o, api.ErrActPartial)
	}
	for _, o := range []api.Op{snap("n", "p"), clone("n", "q")} {
		checkRefused(t, fullCrowd(), o, api.ErrActPartial)
		checkRefused(t, lastCrowd(), o, api.ErrActPartial)
	}
	check(t, crowd(), remove("q"), api.OK)
	checkRefused(t, crowd(), remove("p"), api.ErrActChildren)
	checkAll(t, crowd(), zero, 3, api.ErrActUnknown, remove("t"), remove("p"), remove("q"), remove("q"))
}

// A volume goes only if no other has its ID as its origin, be it a snapshot or a clone, by whatever name.
func TestP21_1VolumesWithChildren(t *testing.T) {
	for _, branch := range []api.Op{snap("b", "a"), clone("b", "a")} {
		checkAll(t, one(5), zero, 1, api.ErrActChildren, branch, remove("a"))
		checkAll(t, one(5), zero, 3, api.ErrActChildren, branch, rename("a", "z"), rename("b", "a"), remove("z"))
		checkAll(t, one(5), "50 7 10; z 8 5 0 0", 0, api.OK, branch, rename("a", "z"), rename("b", "a"), remove("a"))
		checkAll(t, one(5), "50 7 10", 0, api.OK, branch, remove("b"), remove("a"))
		checkAll(t, one(5), zero, 2, api.ErrActChildren, branch, snap("c", "b"), remove("b"))
		checkAll(t, one(5), zero, 4, api.ErrActChildren, branch, clone("c", "b"), remove("c"), snap("d", "b"), remove("b"))
	}
	// The origin is what it was made from, whatever it is restored from later.
	checkAll(t, one(5), "50 7 10; b 9 5 0 0", 0, api.OK, create("b", 3), restore("b", "a"), remove("a"))
	checkAll(t, one(5), zero, 3, api.ErrActChildren, snap("b", "a"), create("c", 1), restore("b", "c"), remove("a"))
}

// IDs: the last one that is left, and none.
func TestP21_1AsManyIDsAsThereAre(t *testing.T) {
	for _, o := range []api.Op{create("n", 1), snap("n", "a"), clone("n", "a")} {
		for next, want := range map[int]api.Errno{9: api.OK, 1<<30 - 1: api.OK, 1 << 30: api.OK, 1<<30 + 1: api.ErrCatalogIDs} {
			v := one(5)
			v.Next = next
			check(t, v, o, want)
			if got, e := dry.Do(v, o); e == api.OK && (got.Next != next+1 || got.Volumes[1].ID != next) {
				t.Errorf("Do(%s) with next %d = %s", toldOp(o), next, told(got))
			}
		}
		both := fullCrowd()
		both.Next = 1<<30 + 1
		if o.Kind != api.OpCreate {
			o.Other = "c"
		}
		checkRefused(t, both, o, api.ErrCatalogFull)
	}
	v := one(5)
	v.Next = 1<<30 + 1
	checkAll(t, v, zero, 1, api.ErrCatalogIDs, remove("a"), create("a", 5))
	v.Next = 1 << 30
	checkAll(t, v, zero, 3, api.ErrCatalogIDs, snap("b", "a"), remove("b"), write("a", 2), clone("b", "a"))
}
