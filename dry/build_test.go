package dry_test

import (
	"bytes"
	"fmt"
	"slices"
	"strings"
	"testing"

	"cistern/api"
	"cistern/dry"
)

func create(name string, to int) api.Op { return api.Op{Kind: api.OpCreate, Name: name, To: to} }

func snap(name string, other string) api.Op {
	return api.Op{Kind: api.OpSnap, Name: name, Other: other}
}

func clone(name string, other string) api.Op {
	return api.Op{Kind: api.OpClone, Name: name, Other: other}
}

func resize(name string, to int) api.Op { return api.Op{Kind: api.OpResize, Name: name, To: to} }

func rename(name string, other string) api.Op {
	return api.Op{Kind: api.OpRename, Name: name, Other: other}
}

func remove(name string) api.Op { return api.Op{Kind: api.OpDelete, Name: name} }

func restore(name string, other string) api.Op {
	return api.Op{Kind: api.OpRestore, Name: name, Other: other}
}

func write(name string, from int) api.Op {
	return api.Op{Kind: api.OpWrite, Name: name, From: from, Data: bytes.Repeat([]byte{7}, 512)}
}

func discard(name string, from int, to int) api.Op {
	return api.Op{Kind: api.OpDiscard, Name: name, From: from, To: to}
}

func fill(name string, from int, to int) api.Op {
	return api.Op{Kind: api.OpFill, Name: name, From: from, To: to}
}

func extend(to int) api.Op { return api.Op{Kind: api.OpExtend, To: to} }

// allKinds gives an operation of each kind that the crowd takes, in the order of the kinds.
func allKinds() []api.Op {
	return []api.Op{
		create("n", 5), snap("n", "a"), clone("n", "s"), resize("a", 3), rename("a", "n"), remove("s"), restore("a", "s"), write("a", 5),
		discard("a", 1, 2), fill("a", 2, 8), extend(101),
	}
}

// ranges gives ranges of their ends: 0, 4, 5, 6 is 0 to 4 and 5 to 6.
func ranges(ends ...int) []api.Range {
	var out []api.Range
	for i := 0; i < len(ends); i += 2 {
		out = append(out, api.Range{From: ends[i], To: ends[i+1]})
	}
	return out
}

// example is the chapter's view: a, and a snapshot s of it.
func example() api.View {
	return api.View{Capacity: 100, Free: 90, Next: 3, Volumes: []api.Volume{
		{Name: "a", ID: 1, Size: 10, Mapped: ranges(0, 4)},
		{Name: "s", ID: 2, Size: 10, Origin: 1, Kind: api.KindSnap, Mapped: ranges(0, 3)},
	}}
}

// crowd is a view with volumes of all sorts: a (with a child), c (a clone of what is gone), e (nothing mapped), p (Partial, with
// a child), q (Partial), s (a snapshot of a), t (a snapshot of p).
func crowd() api.View {
	return api.View{Capacity: 100, Free: 60, Next: 12, Volumes: []api.Volume{
		{Name: "a", ID: 1, Size: 40, Mapped: ranges(0, 4, 6, 7, 30, 40)},
		{Name: "c", ID: 4, Size: 50, Origin: 2, Mapped: ranges(0, 1, 45, 50)},
		{Name: "e", ID: 9, Size: 40},
		{Name: "p", ID: 5, Size: 40, Partial: true, Mapped: ranges(0, 2)},
		{Name: "q", ID: 11, Size: 3, Partial: true},
		{Name: "s", ID: 3, Size: 20, Origin: 1, Kind: api.KindSnap, Mapped: ranges(0, 3)},
		{Name: "t", ID: 7, Size: 40, Origin: 5, Kind: api.KindSnap, Mapped: ranges(1, 2)},
	}}
}

// told tells a view: capacity, free, next; of each volume its name, ID, size, origin, kind, ranges, and half, if it is Partial.
func told(v api.View) string {
	parts := []string{fmt.Sprint(v.Capacity, v.Free, v.Next)}
	for _, x := range v.Volumes {
		text := fmt.Sprintf("%s %d %d %d %d", x.Name, x.ID, x.Size, x.Origin, x.Kind)
		for _, r := range x.Mapped {
			text += fmt.Sprintf(" %d..%d", r.From, r.To)
		}
		if x.Partial {
			text += " half"
		}
		parts = append(parts, text)
	}
	return strings.Join(parts, "; ")
}

const zero = "0 0 0"

// toldOp tells an operation without its data.
func toldOp(o api.Op) string {
	return fmt.Sprintf("kind %d, %q, %q, %d, %d, %d bytes", o.Kind, o.Name, o.Other, o.From, o.To, len(o.Data))
}

// checkDo holds that an operation over a view comes to a view, told.
func checkDo(t *testing.T, v api.View, o api.Op, want string) {
	t.Helper()
	if got, e := dry.Do(v, o); told(got) != want || e != api.OK {
		t.Errorf("Do(%s) over %s\n= %s, %d;\nwant %s", toldOp(o), told(v), told(got), e, want)
	}
}

// checkRefused holds that an operation over a view is refused, with nothing beside the error.
func checkRefused(t *testing.T, v api.View, o api.Op, want api.Errno) {
	t.Helper()
	if got, e := dry.Do(v, o); told(got) != zero || e != want {
		t.Errorf("Do(%s) over %s\n= %s, %d;\nwant %s, %d", toldOp(o), told(v), told(got), e, zero, want)
	}
}

// check holds that an operation over a view is done, or refused.
func check(t *testing.T, v api.View, o api.Op, want api.Errno) {
	t.Helper()
	if want != api.OK {
		checkRefused(t, v, o, want)
	} else if _, e := dry.Do(v, o); e != api.OK {
		t.Errorf("Do(%s) over %s = %d", toldOp(o), told(v), e)
	}
}

// one gives a view with one volume a of that size and those ranges.
func one(size int, mapped ...api.Range) api.View {
	return api.View{Capacity: 50, Free: 7, Next: 9, Volumes: []api.Volume{{Name: "a", ID: 8, Size: size, Mapped: mapped}}}
}

// copied gives a view that shares nothing with another.
func copied(v api.View) api.View {
	v.Volumes = slices.Clone(v.Volumes)
	for i, x := range v.Volumes {
		v.Volumes[i].Mapped = slices.Clone(x.Mapped)
	}
	return v
}

// drawing draws what looks like chance and is the same in each run.
type drawing struct{ seed uint32 }

// below draws from 0 up to and without most.
func (d *drawing) below(most int) int {
	d.seed = d.seed*1664525 + 1013904223
	high := uint64(d.seed >> 8)
	d.seed = d.seed*1664525 + 1013904223
	return int((high<<24 | uint64(d.seed>>8)) % uint64(most))
}

// text draws one of some texts.
func (d *drawing) text(of ...string) string { return of[d.below(len(of))] }

// number draws one of some numbers.
func (d *drawing) number(of ...int) int { return of[d.below(len(of))] }

// checkMet holds that each of some answers was met often enough.
func checkMet(t *testing.T, met map[api.Errno]int, least int, errors ...api.Errno) {
	t.Helper()
	for _, e := range errors {
		if met[e] < least {
			t.Errorf("%d of what was drawn came to %d; all: %v", met[e], e, met)
		}
	}
}
