package usage_test

import (
	"maps"
	"slices"
	"testing"

	"cistern/api"
	"cistern/vol"
)

// tree is a node of the model by its entries, or a data block, which has none. A tree is never changed: who writes has a new one on
// the way down, and beside it what was there before. So volumes share what is one tree in both.
type tree struct{ under map[int]*tree }

// span tells how many logical blocks are found by what hangs at a level.
func span(level int) int { return []int{262144, 4096, 64, 1}[level] }

// with gives the tree behind a write at l.
func (n *tree) with(level int, l int) *tree {
	out := &tree{}
	if level == 3 {
		return out
	}
	out.under = map[int]*tree{}
	if n != nil {
		maps.Copy(out.under, n.under)
	}
	i := l / span(level+1)
	out.under[i] = out.under[i].with(level+1, l%span(level+1))
	return out
}

// without gives the tree behind a drop of the logical blocks from a first one up to another: itself, if none of them was there.
func (n *tree) without(level int, from int, to int) *tree {
	if n == nil || to <= 0 || from >= span(level) {
		return n
	}
	if level == 3 {
		return nil
	}
	out, same := &tree{under: map[int]*tree{}}, true
	for i, below := range n.under {
		first := i * span(level+1)
		left := below.without(level+1, from-first, to-first)
		if left != nil {
			out.under[i] = left
		}
		same = same && left == below
	}
	if same {
		return n
	}
	if len(out.under) == 0 {
		return nil
	}
	return out
}

// has tells whether l is mapped.
func (n *tree) has(level int, l int) bool {
	if n == nil || level == 3 {
		return n != nil
	}
	return n.under[l/span(level+1)].has(level+1, l%span(level+1))
}

// gather adds all that is reached, with its level.
func (n *tree) gather(level int, reached map[*tree]int) {
	if n == nil {
		return
	}
	reached[n] = level
	for _, below := range n.under {
		below.gather(level+1, reached)
	}
}

// volume is one of the model.
type volume struct {
	size    int
	kind    int
	partial bool
	root    *tree
}

// world is a pool, and what its volumes shall be, by their names.
type world struct {
	*bench
	capacity int
	volumes  map[string]*volume
	done     map[int]int    // how many operations of each kind were done
	met      map[string]int // how often something was met
}

func newWorld(t *testing.T, capacity int) *world {
	t.Helper()
	return &world{made(t, capacity, 30), capacity, map[string]*volume{}, map[int]int{}, map[string]int{}}
}

// step does an operation; if it is not refused, in the model too.
func (w *world) step(o api.Op) {
	w.t.Helper()
	if vol.Do(w.p, o) != api.OK {
		return
	}
	w.done[o.Kind]++
	v, other := w.volumes[o.Name], w.volumes[o.Other]
	switch o.Kind {
	case api.OpCreate:
		w.volumes[o.Name] = &volume{size: o.To}
	case api.OpSnap:
		w.volumes[o.Name] = &volume{size: other.size, kind: api.KindSnap, root: other.root}
	case api.OpClone:
		w.volumes[o.Name] = &volume{size: other.size, root: other.root}
	case api.OpResize:
		v.size, v.root = o.To, v.root.without(0, o.To, 262144)
	case api.OpRename:
		delete(w.volumes, o.Name)
		w.volumes[o.Other] = v
	case api.OpDelete:
		delete(w.volumes, o.Name)
	case api.OpRestore:
		v.size, v.root = other.size, other.root
	case api.OpWrite:
		v.root = v.root.with(0, o.From)
	case api.OpDiscard:
		v.root = v.root.without(0, o.From, o.To)
	case api.OpFill:
		for l := o.From; l < o.To; l++ {
			if !v.root.has(0, l) {
				v.root = v.root.with(0, l)
			}
		}
	case api.OpExtend:
		w.capacity = o.To
	}
}

// wantUsage tells what a volume of the model takes. Its own is what no other volume reaches.
func (w *world) wantUsage(name string) api.Usage {
	mine, others := map[*tree]int{}, map[*tree]int{}
	for other, v := range w.volumes {
		if other == name {
			v.root.gather(0, mine)
		} else {
			v.root.gather(0, others)
		}
	}
	u := api.Usage{Name: name}
	for n, level := range mine {
		if level == 3 {
			u.Mapped++
		} else {
			u.Nodes++
		}
		if _, ok := others[n]; ok {
			u.Shared++
		} else {
			u.Own++
		}
	}
	return u
}

func (w *world) wantTotals() api.Totals {
	reached := map[*tree]int{}
	out := api.Totals{Capacity: w.capacity}
	for _, v := range w.volumes {
		v.root.gather(0, reached)
		if v.kind == api.KindSnap {
			out.Snaps++
		} else {
			out.Volumes++
		}
	}
	for _, level := range reached {
		if level == 3 {
			out.Data++
		} else {
			out.Nodes++
		}
	}
	out.Free = out.Capacity - out.Nodes - out.Data
	return out
}

// checkAll holds what the three calls tell against the model.
func (w *world) checkAll() {
	w.t.Helper()
	var want []api.Usage
	for _, name := range slices.Sorted(maps.Keys(w.volumes)) {
		u := w.wantUsage(name)
		want = append(want, u)
		switch {
		case w.volumes[name].partial:
			w.met["partial"]++
		case u.Own > 0 && u.Shared > 0:
			w.met["both"]++
		case u.Own == 0 && u.Shared > 0:
			w.met["shared"]++
		case u.Own == 0:
			w.met["empty"]++
		}
	}
	w.check(want...)
	w.checkTotal(w.wantTotals())
}

// pick gives one of some, by a byte.
func pick[T any](by byte, of ...T) T { return of[int(by)%len(of)] }

// opOf gives an operation by some bytes.
func opOf(r []byte) api.Op {
	name := func(by byte) string { return pick(by, "a", "b", "c", "d", "~e", "n", "m", "a", "b") }
	from := pick(r[2], 0, 64, 4096, 8128, 130, 0) + pick(r[3], 0, 1, 2, 5, 31, 62, 63)
	o := api.Op{Name: name(r[1])}
	switch n := r[0] % 32; {
	case n < 3:
		o.Kind, o.To = api.OpCreate, pick(r[2], 1, 40, 100, 5000, 9000, 262144)
	case n < 9:
		o.Kind, o.Other = pick(r[2], api.OpSnap, api.OpClone), name(r[3])
	case n < 11:
		o.Kind, o.To = api.OpResize, pick(r[2], from+1, 100, 5000, 9000, 262144)
	case n < 13:
		o.Kind, o.Other = api.OpRename, name(r[2])
	case n < 15:
		o.Kind = api.OpDelete
	case n < 17:
		o.Kind, o.Other = api.OpRestore, name(r[2])
	case n < 23:
		o.Kind, o.From, o.Data = api.OpWrite, from, pick(r[4], full(0), full(1), noise(512, uint32(r[5])))
	case n < 26:
		o.Kind, o.From, o.To = api.OpDiscard, from, from+pick(r[4], 0, 1, 2, 64, 100, 4096, 8000)
	case n < 31:
		o.Kind, o.From, o.To = api.OpFill, from, from+int(r[4])%12
	default:
		o.Kind, o.Name, o.To = api.OpExtend, "", 100+int(r[4])
	}
	return o
}

// Operations of every kind in turns, with volumes that become partial and pools that are opened anew.
func TestP13_4OperationsInTurns(t *testing.T) {
	done, met := map[int]int{}, map[string]int{}
	for seed, capacity := range []int{20, 60, 100, 150, 250, 400} {
		w := newWorld(t, capacity)
		w.done, w.met = done, met
		script := noise(10*300, uint32(seed+1))
		for n := 0; n < len(script) && !t.Failed(); n += 10 {
			r := script[n:]
			w.step(opOf(r))
			if name := pick(r[9], "a", "b", "c", "d"); r[8] < 8 && w.volumes[name] != nil {
				is := w.volumes[name].partial
				w.setPartial(!is, name)
				w.volumes[name].partial = !is
			}
			if r[8] > 240 {
				w.again()
			}
			w.checkAll()
			if n%50 == 0 {
				met["deleted"] += w.checkDeletes()
			}
		}
		if t.Failed() {
			t.Fatalf("the pool was of %d blocks", capacity)
		}
	}
	for kind := api.OpCreate; kind <= api.OpExtend; kind++ {
		if done[kind] < 3 {
			t.Errorf("of the kind %d %d operations were done: too few for a test", kind, done[kind])
		}
	}
	for _, what := range []string{"partial", "both", "shared", "empty", "deleted"} {
		if met[what] < 20 {
			t.Errorf("volumes of which it is so (%s) were met %d times: too few for a test", what, met[what])
		}
	}
}

// Two pools in turns have nothing to do with each other.
func TestR5TwoPools(t *testing.T) {
	one, two := newWorld(t, 100), newWorld(t, 150)
	script := noise(8*200, 17)
	for n := 0; n < len(script) && !t.Failed(); n += 8 {
		w := one
		if script[n+7]%2 == 1 {
			w = two
		}
		w.step(opOf(script[n:]))
		if n%64 == 0 {
			one.checkAll()
			two.checkAll()
		}
	}
	x := one.begin()
	two.checkAll()
	x.Abort()
	two.darken()
	one.checkAll()
	refuseAll(t, two.p, api.ErrDiskOff)
}
