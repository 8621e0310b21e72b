package cost_test

import (
	"fmt"
	"strings"
	"testing"

	"cistern/api"
	"cistern/cost"
	"cistern/op"
)

func create(name string, to int) api.Op { return api.Op{Kind: api.OpCreate, Name: name, To: to} }

func snap(name string, other string) api.Op {
	return api.Op{Kind: api.OpSnap, Name: name, Other: other}
}

func clone(name string, other string) api.Op {
	return api.Op{Kind: api.OpClone, Name: name, Other: other}
}

func resize(name string, to int) api.Op { return api.Op{Kind: api.OpResize, Name: name, To: to} }

func rename(name string, other string) api.Op {
	return api.Op{Kind: api.OpRename, Name: name, Other: other}
}

func remove(name string) api.Op { return api.Op{Kind: api.OpDelete, Name: name} }

func restore(name string, other string) api.Op {
	return api.Op{Kind: api.OpRestore, Name: name, Other: other}
}

func write(name string, from int) api.Op {
	return api.Op{Kind: api.OpWrite, Name: name, From: from, Data: make([]byte, api.BlockSize)}
}

func discard(name string, from int, to int) api.Op {
	return api.Op{Kind: api.OpDiscard, Name: name, From: from, To: to}
}

func fill(name string, from int, to int) api.Op {
	return api.Op{Kind: api.OpFill, Name: name, From: from, To: to}
}

func extend(to int) api.Op { return api.Op{Kind: api.OpExtend, To: to} }

// list gives operations as one list.
func list(ops ...api.Op) []api.Op { return ops }

// told tells operations, of many the first; of one that layer 16 refuses all fields, of data how many bytes they are.
func told(ops ...api.Op) string {
	var parts []string
	for _, o := range ops[:min(len(ops), 40)] {
		text, e := op.Print([]api.Op{o})
		if e != api.OK {
			text = fmt.Sprintf("kind %d %q %q %d %d, %d bytes", o.Kind, o.Name, o.Other, o.From, o.To, len(o.Data))
		}
		if o.Kind == api.OpWrite && e == api.OK {
			text = fmt.Sprintf("write %s %d", o.Name, o.From)
		}
		parts = append(parts, strings.TrimSuffix(text, "\n"))
	}
	return strings.Join(parts, "; ")
}

func check(t *testing.T, o api.Op, want int) {
	t.Helper()
	if n, e := cost.Worst(o); n != want || e != api.OK {
		t.Errorf("Worst(%s) = %d, %d; want %d", told(o), n, e, want)
	}
}

func checkNone(t *testing.T, o api.Op, want api.Errno) {
	t.Helper()
	if n, e := cost.Worst(o); n != 0 || e != want {
		t.Errorf("Worst(%s) = %d, %d; want 0, %d", told(o), n, e, want)
	}
}

func checkAll(t *testing.T, ops []api.Op, want int) {
	t.Helper()
	if n, e := cost.All(ops); n != want || e != api.OK {
		t.Errorf("All(%s) = %d, %d; want %d", told(ops...), n, e, want)
	}
}

func checkNoAll(t *testing.T, ops []api.Op, want api.Errno) {
	t.Helper()
	if n, e := cost.All(ops); n != 0 || e != want {
		t.Errorf("All(%s) = %d, %d; want 0, %d", told(ops...), n, e, want)
	}
	// However much is free, it is the same error.
	for _, free := range []int{-1, 0, 1 << 40} {
		if fits, e := cost.Fits(api.View{Free: free}, ops); fits || e != want {
			t.Errorf("Fits(%d free, %s) = %v, %d; want false, %d", free, told(ops...), fits, e, want)
		}
	}
}

func checkFits(t *testing.T, free int, ops []api.Op, want bool) {
	t.Helper()
	if fits, e := cost.Fits(api.View{Free: free}, ops); fits != want || e != api.OK {
		t.Errorf("Fits(%d free, %s) = %v, %d; want %v", free, told(ops...), fits, e, want)
	}
}

// edges gives logical blocks on, just below and just above multiples of each level's span.
func edges() []int {
	return []int{
		0, 1, 2, 32, 63, 64, 65, 127, 128, 129, 4031, 4032, 4033, 4095, 4096, 4097, 4159, 4160, 4161, 8191, 8192, 8193,
		131072, 258047, 258048, 258049, 262079, 262080, 262081, 262142, 262143, 262144,
	}
}

// drawing draws what looks like chance and is the same in each run.
type drawing struct{ seed uint64 }

// below draws from 0 up to and without most.
func (d *drawing) below(most int) int {
	d.seed += 0x9e3779b97f4a7c15
	x := d.seed
	x = (x ^ x>>30) * 0xbf58476d1ce4e5b9
	x = (x ^ x>>27) * 0x94d049bb133111eb
	return int((x ^ x>>31) % uint64(most))
}

// text draws one of some texts.
func (d *drawing) text(of ...string) string { return of[d.below(len(of))] }

// number draws one of some numbers.
func (d *drawing) number(of ...int) int { return of[d.below(len(of))] }
