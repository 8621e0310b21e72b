package cost_test

import (
	"testing"

	"cistern/api"
	"cistern/op"
)

// A tally counts of each level the spans that a range meets, and those of them that it does not cover, block by block.
type tally struct{ met, parted int }

func tallyOf(from int, to int) tally {
	var out tally
	for _, span := range []int{262144, 4096, 64} {
		var within [4096]int
		for l := max(0, from); l < min(to, 262144); l++ {
			within[l/span]++
		}
		for _, blocks := range within {
			if blocks > 0 {
				out.met++
			}
			if blocks > 0 && blocks < span {
				out.parted++
			}
		}
	}
	return out
}

// worstOf tells the worst by the table's words.
func worstOf(o api.Op) (int, api.Errno) {
	if o.Kind < 1 || o.Kind > 11 {
		return 0, api.ErrCostKind
	}
	if e := op.Check(o); e != api.OK {
		return 0, e
	}
	switch o.Kind {
	case api.OpWrite:
		return 4, api.OK
	case api.OpFill:
		return tallyOf(o.From, o.To).met + o.To - o.From, api.OK
	case api.OpDiscard:
		return tallyOf(o.From, o.To).parted, api.OK
	case api.OpResize:
		worst := 0
		for _, span := range []int{262144, 4096, 64} {
			if o.To%span != 0 {
				worst++
			}
		}
		return worst, api.OK
	}
	return 0, api.OK
}

// near draws a logical block near an edge of some level's span, or anywhere; now and then one that may not be.
func (d *drawing) near() int {
	switch d.below(4) {
	case 0:
		return d.below(262145)
	case 1:
		return d.below(300)
	}
	span := d.number(64, 4096, 262144)
	return span*d.below(262144/span+1) + d.below(3) - 1
}

// operation draws one of any kind; now and then one that may not be.
func (d *drawing) operation() api.Op {
	name, other := d.text("a", "b", "s", "s", "A"), d.text("c", "d", "")
	from, to := d.near(), d.near()
	short := d.number(1, 5, 31, 32, 33)
	switch d.below(16) {
	case 0, 1, 2, 3:
		return discard(name, min(from, to), max(from, to))
	case 4:
		return discard(name, from, to)
	case 5:
		return fill(name, from, from+d.below(short+1))
	case 6, 7:
		back := d.below(20)
		return fill(name, from-back, from-back+d.number(1, 31, 32, 32, 33))
	case 8, 9:
		return resize(name, to)
	case 10:
		return write(name, from)
	case 11:
		return create(name, to)
	case 12:
		return d.pick(snap(name, other), clone(name, other), rename(name, other), restore(name, other))
	case 13:
		return d.pick(remove(name), extend(to))
	case 14:
		return api.Op{Kind: d.below(14), Name: name, From: d.below(2), To: d.below(9)}
	}
	return api.Op{Kind: d.number(-1, 0, 12), Name: name}
}

func (d *drawing) pick(ops ...api.Op) api.Op { return ops[d.below(len(ops))] }

func TestP26_1AsTheWordsSay(t *testing.T) {
	d := &drawing{seed: 1}
	var met [12][40]int
	refused := map[api.Errno]int{}
	for range 6000 {
		o := d.operation()
		want, e := worstOf(o)
		if e != api.OK {
			checkNone(t, o, e)
			refused[e]++
			continue
		}
		check(t, o, want)
		met[o.Kind][want]++
	}
	for kind, worsts := range map[int][]int{api.OpWrite: {4}, api.OpDiscard: {0, 1, 2, 3, 4, 5}, api.OpResize: {0, 1, 2, 3}, api.OpFill: {0, 4, 7, 35, 36, 37}, api.OpRename: {0}, api.OpExtend: {0}} {
		for _, worst := range worsts {
			if met[kind][worst] == 0 {
				t.Errorf("no operation of kind %d with a worst of %d was drawn", kind, worst)
			}
		}
	}
	for _, e := range []api.Errno{api.ErrCostKind, api.ErrActForm, api.ErrActName, api.ErrActSize, api.ErrActRange} {
		if refused[e] < 20 {
			t.Errorf("%d operations were refused with %d", refused[e], e)
		}
	}
}

// All pairs of ends on and near the edges of all levels.
func TestP26_1AllEdges(t *testing.T) {
	for _, from := range edges() {
		for _, to := range edges() {
			if from <= to {
				check(t, discard("a", from, to), tallyOf(from, to).parted)
			}
			if from <= to && to-from <= 32 {
				check(t, fill("a", from, to), tallyOf(from, to).met+to-from)
			}
		}
		for length := range 33 {
			if from+length <= 262144 {
				check(t, fill("a", from, from+length), tallyOf(from, from+length).met+length)
			}
		}
	}
}

func TestP26_2AsTheWordsSay(t *testing.T) {
	d := &drawing{seed: 2}
	fine, refused := 0, 0
	for range 600 {
		var ops []api.Op
		sum, first := 0, api.OK
		for range d.below(20) {
			o := d.operation()
			worst, e := worstOf(o)
			if e != api.OK && d.below(8) > 0 {
				continue
			}
			ops = append(ops, o)
			sum += worst
			if first == api.OK {
				first = e
			}
		}
		if first != api.OK {
			checkNoAll(t, ops, first)
			refused++
			continue
		}
		fine++
		checkAll(t, ops, sum)
		checkFits(t, sum, ops, true)
		checkFits(t, sum-1, ops, false)
		checkFits(t, sum+1, ops, true)
	}
	if fine < 100 || refused < 100 {
		t.Errorf("%d lists were fine, %d refused", fine, refused)
	}
}
