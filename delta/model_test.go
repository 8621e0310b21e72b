package delta_test

import (
	"bytes"
	"maps"
	"slices"
	"testing"

	"cistern/api"
	"cistern/vol"
)

// cell is a data block of the model: two volumes have the same one, or each its own.
type cell struct{ data []byte }

// volume is one of the model: its size, and its cells by their logical blocks.
type volume struct {
	size    int
	partial bool
	cells   map[int]*cell
}

// reads gives what the volume reads at l.
func (v *volume) reads(l int) []byte {
	if c := v.cells[l]; c != nil && l < v.size {
		return c.data
	}
	return full(0)
}

// drop lets all go from a logical block up to another.
func (v *volume) drop(from int, to int) {
	maps.DeleteFunc(v.cells, func(l int, _ *cell) bool { return l >= from && l < to })
}

// world is a pool, and what its volumes shall be, by their names.
type world struct {
	*bench
	volumes map[string]*volume
	done    map[int]int    // how many operations of each kind were done
	told    map[string]int // how often two volumes were met of which something is so
}

func newWorld(t *testing.T, capacity int) *world {
	t.Helper()
	return &world{made(t, capacity, 30), map[string]*volume{}, map[int]int{}, map[string]int{}}
}

// step does an operation; if it is not refused, in the model too.
func (w *world) step(o api.Op) {
	w.t.Helper()
	if vol.Do(w.p, o) != api.OK {
		return
	}
	w.done[o.Kind]++
	v, other := w.volumes[o.Name], w.volumes[o.Other]
	switch o.Kind {
	case api.OpCreate:
		w.volumes[o.Name] = &volume{size: o.To, cells: map[int]*cell{}}
	case api.OpSnap, api.OpClone:
		w.volumes[o.Name] = &volume{size: other.size, cells: maps.Clone(other.cells)}
	case api.OpResize:
		v.size = o.To
		v.drop(o.To, 262144)
	case api.OpRename:
		delete(w.volumes, o.Name)
		w.volumes[o.Other] = v
	case api.OpDelete:
		delete(w.volumes, o.Name)
	case api.OpRestore:
		v.size, v.cells = other.size, maps.Clone(other.cells)
	case api.OpWrite:
		v.cells[o.From] = &cell{bytes.Clone(o.Data)}
	case api.OpDiscard:
		v.drop(o.From, o.To)
	case api.OpFill:
		for l := o.From; l < o.To; l++ {
			if v.cells[l] == nil {
				v.cells[l] = &cell{full(0)}
			}
		}
	}
}

// sharedCells gives the logical blocks at which two volumes have the same cell.
func sharedCells(a *volume, b *volume) map[int]bool {
	out := map[int]bool{}
	for l, c := range a.cells {
		if b.cells[l] == c {
			out[l] = true
		}
	}
	return out
}

// changedCells gives the logical blocks at which two volumes read unlike.
func changedCells(a *volume, b *volume) map[int]bool {
	out := map[int]bool{}
	for _, v := range []*volume{a, b} {
		for l := range v.cells {
			if !bytes.Equal(a.reads(l), b.reads(l)) {
				out[l] = true
			}
		}
	}
	return out
}

// rangesOf gives the ranges of some logical blocks, plainly.
func rangesOf(is map[int]bool) []api.Range {
	var out []api.Range
	for _, l := range slices.Sorted(maps.Keys(is)) {
		if is[l-1] {
			out[len(out)-1].To = l + 1
			continue
		}
		out = append(out, api.Range{From: l, To: l + 1})
	}
	return out
}

// checkAll holds what both calls tell of every two volumes against the model, both ways round and of each with itself.
func (w *world) checkAll() {
	w.t.Helper()
	names := slices.Sorted(maps.Keys(w.volumes))
	for i, one := range names {
		for _, other := range names[i:] {
			a, b := w.volumes[one], w.volumes[other]
			if a.partial || b.partial {
				w.told["partial"]++
				refuse(w.t, w.p, one, other, api.ErrActPartial)
				refuse(w.t, w.p, other, one, api.ErrActPartial)
				continue
			}
			shared, changed := rangesOf(sharedCells(a, b)), rangesOf(changedCells(a, b))
			w.check(one, other, shared, changed)
			w.checkForm(one, other)
			if one != other && len(shared) > 0 && len(changed) > 0 {
				w.told["both"]++
			}
			if len(shared)+len(changed) > 5 {
				w.told["many"]++
			}
		}
	}
}

// checkForm holds what P12.3 says of the two lists of two volumes.
func (w *world) checkForm(one string, other string) {
	w.t.Helper()
	lies := map[int]int{}
	for i, ranges := range [][]api.Range{w.mapped(one), w.mapped(other), w.shared(one, other), w.changed(one, other)} {
		last := -1
		for _, r := range ranges {
			if r.From <= last || r.From >= r.To || r.To > 262144 {
				w.t.Errorf("of %q and %q %v is not in its one form", one, other, ranges)
			}
			last = r.To
			for l := r.From; l < r.To; l++ {
				lies[l] |= 1 << i
			}
		}
	}
	for l, in := range lies {
		if in&4 != 0 && in&3 != 3 {
			w.t.Errorf("%d is shared by %q and %q, and not mapped of both", l, one, other)
		}
		if in&12 == 12 {
			w.t.Errorf("%d is in both lists of %q and %q", l, one, other)
		}
		if in&8 != 0 && bytes.Equal(w.volumes[one].reads(l), w.volumes[other].reads(l)) {
			w.t.Errorf("%d is changed between %q and %q, and reads alike", l, one, other)
		}
	}
}

// pick gives one of some, by a byte.
func pick[T any](by byte, of ...T) T { return of[int(by)%len(of)] }

// opOf gives an operation by some bytes. What is written is one of few blocks: so there are the same bytes in many places.
func opOf(r []byte) api.Op {
	name := func(by byte) string { return pick(by, "a", "b", "c", "d", "~e", "a", "b") }
	from := pick(r[2], 0, 64, 4096, 8128, 130, 0) + pick(r[3], 0, 1, 2, 5, 31, 62, 63)
	o := api.Op{Name: name(r[1])}
	switch n := r[0] % 32; {
	case n < 3:
		o.Kind, o.To = api.OpCreate, pick(r[2], 1, 40, 100, 5000, 9000, 262144)
	case n < 8:
		o.Kind, o.Other = pick(r[2], api.OpSnap, api.OpClone), name(r[3])
	case n < 10:
		o.Kind, o.To = api.OpResize, pick(r[2], from+1, 100, 5000, 9000, 262144)
	case n < 11:
		o.Kind, o.Other = api.OpRename, name(r[2])
	case n < 13:
		o.Kind = api.OpDelete
	case n < 15:
		o.Kind, o.Other = api.OpRestore, name(r[2])
	case n < 23:
		o.Kind, o.From, o.Data = api.OpWrite, from, pick(r[4], full(0), full(1), full(1), full(2), lastByte(1), noise(512, uint32(r[5])))
	case n < 26:
		o.Kind, o.From, o.To = api.OpDiscard, from, from+pick(r[4], 0, 1, 2, 64, 100, 4096, 8000)
	case n < 31:
		o.Kind, o.From, o.To = api.OpFill, from, from+int(r[4])%12
	default:
		o.Kind, o.Name, o.To = api.OpExtend, "", 100+int(r[4])
	}
	return o
}

// Operations of every kind in turns, with volumes that become partial and pools that are opened anew.
func TestP12_3OperationsInTurns(t *testing.T) {
	done, told := map[int]int{}, map[string]int{}
	for seed, capacity := range []int{20, 60, 100, 150, 250, 400} {
		w := newWorld(t, capacity)
		w.done, w.told = done, told
		script := noise(10*250, uint32(seed+1))
		for n := 0; n < len(script) && !t.Failed(); n += 10 {
			r := script[n:]
			w.step(opOf(r))
			if name := pick(r[9], "a", "b", "c", "d"); r[8] < 8 && w.volumes[name] != nil {
				is := w.volumes[name].partial
				w.setPartial(!is, name)
				w.volumes[name].partial = !is
			}
			if r[8] > 240 {
				w.again()
			}
			w.checkAll()
		}
		if t.Failed() {
			t.Fatalf("the pool was of %d blocks", capacity)
		}
	}
	for kind := api.OpCreate; kind <= api.OpExtend; kind++ {
		if done[kind] < 3 {
			t.Errorf("of the kind %d %d operations were done: too few for a test", kind, done[kind])
		}
	}
	for _, what := range []string{"partial", "both", "many"} {
		if told[what] < 20 {
			t.Errorf("two volumes of which it is so (%s) were met %d times: too few for a test", what, told[what])
		}
	}
}

// A snapshot or a clone that was just taken shares all, and nothing is changed; and what a Write to either of them makes of that.
func TestP12_3ASnapshotThatWasJustTaken(t *testing.T) {
	for _, taken := range []api.Op{snap("n", "a"), clone("n", "a"), snap("n", "s"), snap("n", "c"), clone("n", "o"), clone("n", "l"), snap("n", "e")} {
		for _, written := range []string{"n", taken.Other} {
			b := used(t)
			b.do(taken)
			mapped := b.mapped(taken.Other)
			b.check("n", taken.Other, mapped, nil)
			if len(mapped) == 0 {
				continue
			}
			for _, l := range []int{mapped[0].From, mapped[len(mapped)-1].To - 1} {
				data, e := vol.Read(b.p, taken.Other, l)
				if e != api.OK {
					t.Fatalf("Read(%q, %d) = %d", taken.Other, l, e)
				}
				b.checkWrite(taken.Other, written, l, data, rangesOf(without(mapped, l)))
			}
		}
	}
}

// without gives the logical blocks of ranges but for one.
func without(ranges []api.Range, but int) map[int]bool {
	out := map[int]bool{}
	for _, r := range ranges {
		for l := r.From; l < r.To; l++ {
			out[l] = l != but
		}
	}
	maps.DeleteFunc(out, func(_ int, is bool) bool { return !is })
	return out
}

// checkWrite writes other bytes, the same, zeros and others again to one of two that are the same, and brings them together again.
func (b *bench) checkWrite(source string, written string, l int, data []byte, shared []api.Range) {
	b.t.Helper()
	for _, next := range [][]byte{full(200), data, full(0), lastByte(7)} {
		b.do(write(written, l, next))
		var changed []api.Range
		if !bytes.Equal(next, data) {
			changed = spans(l, l+1)
		}
		b.check("n", source, shared, changed)
	}
	other := source
	if written == source {
		other = "n"
	}
	b.do(restore(written, other))
	b.check("n", source, b.mapped(source), nil)
}

// Behind a Write to a block that was not mapped of either: it is shared by none, and changed if it is not zeros.
func TestP12_3AWriteToWhatWasNotMapped(t *testing.T) {
	for _, l := range []int{2, 63, 65, 4096, 4998} {
		b := used(t)
		b.do(snap("n", "a"))
		mapped := b.mapped("a")
		b.do(write("n", l, full(0)))
		b.check("n", "a", mapped, nil)
		b.do(write("a", l, full(0)))
		b.check("n", "a", mapped, nil)
		b.do(write("a", l, lastByte(1)))
		b.check("n", "a", mapped, spans(l, l+1))
		b.do(discard("n", l, l+1))
		b.check("n", "a", mapped, spans(l, l+1))
	}
}
