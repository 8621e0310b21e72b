package tidy_test

import (
	"fmt"
	"testing"

	"cistern/api"
	"cistern/tidy"
)

// checkLength holds how many operations are left of many, and that Once comes to an end too.
func checkLength(t *testing.T, v api.View, ops []api.Op, want int) []api.Op {
	t.Helper()
	got, e := tidy.Ops(v, ops)
	if len(got) != want || e != api.OK {
		t.Errorf("of %d operations %d are left, %d; want %d", len(ops), len(got), e, want)
	}
	once, at, e := tidy.Once(v, ops)
	if (len(once) < len(ops)) != (want < len(ops)) || e != api.OK || (at == -1) != (want == len(ops)) {
		t.Errorf("of %d operations %d are left, %d, %d", len(ops), len(once), at, e)
	}
	return got
}

// many gives so many operations.
func many(count int, one func(i int) api.Op) []api.Op {
	ops := make([]api.Op, count)
	for i := range ops {
		ops[i] = one(i)
	}
	return ops
}

// Long lists: what is spared is not looked for from the beginning on each time, and the list is not laid anew for each.
func TestP25_1LongLists(t *testing.T) {
	const count = 200000
	v := api.View{Capacity: 262144, Next: 3, Volumes: []api.Volume{{Name: "a", ID: 1, Size: 10, Mapped: ranges(0, 4)}, {Name: "b", ID: 2, Size: 262144, Mapped: ranges(0, 262144)}}}
	checkLength(t, v, many(count, func(int) api.Op { return api.Op{Kind: api.OpResize, Name: "a", To: 10} }), 0)
	checkLength(t, v, many(count, func(int) api.Op { return api.Op{Kind: api.OpRestore, Name: "b", Other: "b"} }), 0)
	checkLength(t, v, many(count, func(int) api.Op { return api.Op{Kind: api.OpFill, Name: "b", From: 5, To: 30} }), 0)
	checkLength(t, v, many(count, func(i int) api.Op { return api.Op{Kind: api.OpResize, Name: "a", To: 11 + i} }), 1)
	checkLength(t, v, many(count, func(i int) api.Op { return api.Op{Kind: api.OpResize, Name: "a", To: 1 + i} }), 2)
	checkLength(t, v, many(count, func(i int) api.Op { return api.Op{Kind: api.OpResize, Name: "a", To: count - i} }), 1)
	checkLength(t, v, many(count, func(i int) api.Op { return api.Op{Kind: api.OpDiscard, Name: "b", From: i, To: i + 1} }), 1)
	checkLength(t, v, many(count/2, func(i int) api.Op { return api.Op{Kind: api.OpDiscard, Name: "b", From: 2 * i, To: 2*i + 1} }), count/2)
	checkLength(t, v, many(count, func(i int) api.Op { return api.Op{Kind: api.OpRestore, Name: "a", Other: "b"} })[:5000], 1)
	checkLength(t, v, many(count, func(i int) api.Op { return api.Op{Kind: api.OpExtend, To: 262144} })[:0], 0)
}

// There and back again: each pair that goes lets the two around it stand beside one another.
func TestP25_1LongWaysBack(t *testing.T) {
	const count = 60000
	v := example()
	there := many(count, func(i int) api.Op {
		return api.Op{Kind: api.OpRename, Name: nameOn(i%2, i/2), Other: nameOn(i%2, i/2+1)}
	})
	back := many(count, func(i int) api.Op {
		o := there[count-1-i]
		return api.Op{Kind: api.OpRename, Name: o.Other, Other: o.Name}
	})
	checkLength(t, v, append(there, back...), 0)
	got := checkLength(t, v, append(append(there, back...), list(t, "resize a 5; delete s")...), 2)
	if told(got) != "resize a 5; delete s" {
		t.Errorf("%s", told(got))
	}
	got = checkLength(t, v, append(there, back[:count-1]...), 1)
	if told(got) != "rename a to a1" {
		t.Errorf("%s", told(got))
	}
}

// nameOn gives the name that a or s goes on to.
func nameOn(which int, step int) string {
	name := []string{"a", "s"}[which]
	if step == 0 {
		return name
	}
	return fmt.Sprint(name, step)
}

// Long lists over a view with many volumes of many ranges: it is not gone through for each operation.
func TestP25_1OverAGreatView(t *testing.T) {
	v := api.View{Capacity: 262144, Next: 100}
	for i := range 60 {
		x := api.Volume{Name: fmt.Sprintf("v%02d", i), ID: i + 1, Size: 262144}
		for l := 0; l < 20000; l += 2 {
			x.Mapped = append(x.Mapped, api.Range{From: l, To: l + 1})
		}
		v.Volumes = append(v.Volumes, x)
	}
	fills := many(8192, func(i int) api.Op { return api.Op{Kind: api.OpFill, Name: "v07", From: 32 * i, To: 32*i + 32} })
	checkLength(t, v, fills, 8192)
	halves := many(16384, func(i int) api.Op { return api.Op{Kind: api.OpFill, Name: "v09", From: 16 * i, To: 16*i + 16} })
	checkLength(t, v, halves, 8192)
	checkLength(t, v, append(fills, fills...), 8192)
	discards := many(20000, func(i int) api.Op { return api.Op{Kind: api.OpDiscard, Name: "v59", From: i, To: i + 1} })
	got := checkLength(t, v, discards, 10000)
	if told(got[:2]) != "discard v59 0 1; discard v59 2 3" {
		t.Errorf("%s", told(got[:2]))
	}
	checkLength(t, v, many(100000, func(i int) api.Op { return api.Op{Kind: api.OpDiscard, Name: "v30", From: 20000 + i, To: 262144} }), 0)
	checkLength(t, v, many(100000, func(i int) api.Op { return api.Op{Kind: api.OpResize, Name: "v30", To: 262144} }), 0)
}
