package check_test

import (
	"cmp"
	"maps"
	"slices"
	"strings"
	"testing"

	"cistern/api"
	"cistern/txn"
	"cistern/vol"
)

// model reckons a pool's problems by the words of the chapter, of what layers 6 to 9 tell.
type model struct {
	*bench
	x        *txn.Txn
	capacity int
	volumes  []api.Entry
	parents  map[int]map[int]int // by pool block: what names it
	problems []api.Problem
}

// wanted gives the problems, or the error of reading.
func (b *bench) wanted() ([]api.Problem, api.Errno) {
	b.t.Helper()
	x := b.begin()
	defer x.Abort()
	capacity, e := b.p.Space().Size(x)
	if e != api.OK {
		return nil, e
	}
	volumes, e := b.p.Catalog().List(x)
	if e != api.OK {
		return nil, e
	}
	m := &model{bench: b, x: x, capacity: capacity, volumes: volumes, parents: map[int]map[int]int{}}
	for _, v := range volumes {
		if e := m.look(v); e != api.OK {
			return nil, e
		}
	}
	if !slices.ContainsFunc(m.problems, func(p api.Problem) bool { return p.Kind == api.ProblemNode || p.Kind == api.ProblemRoot }) {
		if e := m.count(); e != api.OK {
			return nil, e
		}
	}
	if _, e := b.p.Slot(x); e != api.OK {
		m.add(api.ProblemSlot, 0, int(e), 0)
	}
	slices.SortFunc(m.problems, func(a, b api.Problem) int { return cmp.Or(a.Kind-b.Kind, a.Where-b.Where) })
	return m.problems, api.OK
}

func (m *model) add(kind int, where int, found int, wanted int) {
	m.problems = append(m.problems, api.Problem{Kind: kind, Where: where, Found: found, Wanted: wanted})
}

// look finds what is wrong with a volume.
func (m *model) look(v api.Entry) api.Errno {
	lower, origin := false, false
	for _, other := range m.volumes {
		lower = lower || other.Name == v.Name && other.ID < v.ID
		origin = origin || other.ID == v.Origin && other.ID < v.ID
	}
	if lower || !mayBe(v.Name) {
		m.add(api.ProblemName, v.ID, 0, 0)
	}
	if v.Origin != 0 && !origin || v.Origin == 0 && v.Kind == api.KindSnap {
		m.add(api.ProblemOrigin, v.ID, v.Origin, 0)
	}
	if v.Root > m.capacity {
		m.add(api.ProblemRoot, v.ID, v.Root, m.capacity)
		return api.OK
	}
	tiles, e := m.p.Map().Walk(m.x, v.Root)
	if e == api.ErrRadixNode {
		if told := (api.Problem{Kind: api.ProblemNode, Where: v.Root}); !slices.Contains(m.problems, told) {
			m.problems = append(m.problems, told)
		}
		return api.OK
	}
	if e != api.OK {
		return e
	}
	m.gather(v, tiles)
	pairs, e := m.p.Map().Pairs(m.x, v.Root, 0, 262144)
	if e != api.OK {
		return e
	}
	if n := len(pairs); n > 0 && pairs[n-1].Logical >= v.Size {
		m.add(api.ProblemSize, v.ID, pairs[n-1].Logical+1, v.Size)
	}
	return api.OK
}

func mayBe(name string) bool {
	const letters = "abcdefghijklmnopqrstuvwxyz"
	return len(name) >= 1 && len(name) <= 31 && strings.Contains(letters+"~", name[:1]) && strings.Trim(name, letters+"0123456789.-_@~") == ""
}

// gather says of each tile what names it: a node, or (by a number below 0) a volume.
func (m *model) gather(v api.Entry, tiles []api.Tile) {
	way := []int{-v.ID}
	for _, tile := range tiles {
		way = append(way[:tile.Level+1], tile.Block)
		if m.parents[tile.Block] == nil {
			m.parents[tile.Block] = map[int]int{}
		}
		m.parents[tile.Block][way[tile.Level]]++
	}
}

// count holds the counts against the references.
func (m *model) count() api.Errno {
	for block := 1; block <= m.capacity; block++ {
		n, e := m.p.Space().Count(m.x, block)
		if e != api.OK {
			return e
		}
		if references := len(m.parents[block]); n != references {
			m.add(api.ProblemCount, block, n, references)
		}
	}
	return api.OK
}

// pick gives one of some, by a byte.
func pick[T any](by byte, of ...T) T { return of[int(by)%len(of)] }

// opOf gives an operation by some bytes.
func opOf(r []byte) api.Op {
	name := func(by byte) string { return pick(by, "a", "b", "c", "d", "~e", "n", "m", "a", "b") }
	from := pick(r[2], 0, 64, 4096, 8128, 130, 0) + pick(r[3], 0, 1, 2, 5, 31, 62, 63)
	o := api.Op{Name: name(r[1])}
	switch n := r[0] % 32; {
	case n < 3:
		o.Kind, o.To = api.OpCreate, pick(r[2], 1, 40, 100, 5000, 9000, 262144)
	case n < 9:
		o.Kind, o.Other = pick(r[2], api.OpSnap, api.OpClone), name(r[3])
	case n < 11:
		o.Kind, o.To = api.OpResize, pick(r[2], from+1, 100, 5000, 9000, 262144)
	case n < 13:
		o.Kind, o.Other = api.OpRename, name(r[2])
	case n < 15:
		o.Kind = api.OpDelete
	case n < 17:
		o.Kind, o.Other = api.OpRestore, name(r[2])
	case n < 23:
		o.Kind, o.From, o.Data = api.OpWrite, from, pick(r[4], full(0), full(1), noise(512, uint32(r[5])))
	case n < 26:
		o.Kind, o.From, o.To = api.OpDiscard, from, from+pick(r[4], 0, 1, 2, 64, 100, 4096, 8000)
	case n < 31:
		o.Kind, o.From, o.To = api.OpFill, from, from+int(r[4])%12
	default:
		o.Kind, o.Name, o.To = api.OpExtend, "", 100+int(r[4])
	}
	return o
}

// names gives those of the volumes that there are.
func (b *bench) names() []string {
	b.t.Helper()
	view, e := vol.View(b.p)
	if e != api.OK {
		b.t.Fatalf("View() = %d", e)
	}
	var names []string
	for _, v := range view.Volumes {
		names = append(names, v.Name)
	}
	return names
}

// spoil changes a count or an entry, by some bytes.
func (b *bench) spoil(r []byte, names []string, roots []int) {
	b.t.Helper()
	size := b.size()
	block := 1 + int(r[1])%size
	switch by := r[0] % 8; {
	case by < 4:
		b.recount(block, by == 0)
		return
	case len(names) == 0:
		return
	}
	b.entry(pick(r[2], names...), func(v *api.Entry) {
		switch r[0] % 8 {
		case 4:
			v.Root = pick(r[3], pick(r[1], append(roots, v.Root)...), pick(r[1], 0, block), pick(r[1], 262144, size+1))
		case 5:
			v.Origin = pick(r[3], 0, v.ID, v.ID+1, v.ID-1, 1, 2, 3, 1<<30)
		case 6:
			v.Size = pick(r[3], 1, 2, 5, 60, 64, 65, 4096, 4097, 8128, 262144)
		case 7:
			v.Kind = pick(r[3], api.KindVolume, api.KindSnap)
		}
	})
}

// recount gives a pool block a reference more, or one less. Where it has none to begin with, the lowest free one is taken.
func (b *bench) recount(block int, more bool) {
	b.t.Helper()
	x := b.begin()
	e := b.p.Space().Ref(x, block)
	if e == api.OK && !more {
		b.p.Space().Unref(x, block)
		_, e = b.p.Space().Unref(x, block)
	}
	if e == api.ErrSpaceNone {
		_, e = b.p.Space().Alloc(x)
	}
	if e != api.OK && e != api.ErrSpaceFull {
		b.t.Fatalf("a change of the count of %d = %d", block, e)
	}
	x.Commit()
}

// Operations of every kind in turns, in pools that are opened anew now and then: nothing is found. Beside them pools that are
// spoilt at one place and at several: what is found is held against the model.
func TestP14_4OperationsAndSpoiltPoolsInTurns(t *testing.T) {
	done, met, many := map[int]int{}, map[int]int{}, 0
	for seed, capacity := range []int{20, 60, 100, 150, 250, 400} {
		b := made(t, capacity, 30)
		var roots []int
		script := noise(10*260, uint32(seed+1))
		for n := 0; n < len(script) && !t.Failed(); n += 10 {
			r := script[n:]
			if o := opOf(r); vol.Do(b.p, o) == api.OK {
				done[o.Kind]++
			}
			if r[8] > 240 {
				b.again()
			}
			b.checkFits("behind an operation")
			names := b.names()
			if len(names) > 0 {
				roots = append(roots, b.get(pick(r[9], names...)).Root)
			}
			if n%40 == 0 {
				kinds := b.checkSpoilt(noise(200, uint32(1000*seed+n)), names, roots)
				for kind := range kinds {
					met[kind]++
				}
				if len(kinds) > 2 {
					many++
				}
			}
		}
		if t.Failed() {
			t.Fatalf("the pool was of %d blocks", capacity)
		}
	}
	for kind := api.OpCreate; kind <= api.OpExtend; kind++ {
		if done[kind] < 3 {
			t.Errorf("of the kind %d %d operations were done: too few for a test", kind, done[kind])
		}
	}
	for _, kind := range []int{api.ProblemCount, api.ProblemNode, api.ProblemRoot, api.ProblemOrigin, api.ProblemSize} {
		if met[kind] < 20 {
			t.Errorf("problems of the kind %d were met in %d pools: too few for a test", kind, met[kind])
		}
	}
	if many < 20 {
		t.Errorf("problems of several kinds were met in %d pools: too few for a test", many)
	}
}

// checkSpoilt spoils another pool that holds the same, at more and more places. It tells which kinds of problems were found.
func (b *bench) checkSpoilt(r []byte, names []string, roots []int) map[int]int {
	b.t.Helper()
	kinds := map[int]int{}
	f := b.fork()
	for i := 0; i < 40 && !b.t.Failed(); i += 4 {
		f.spoil(r[i:], names, roots)
		for _, p := range f.checkByModel("a spoilt pool") {
			kinds[p.Kind]++
		}
	}
	return kinds
}

func (b *bench) size() int {
	b.t.Helper()
	x := b.begin()
	defer x.Abort()
	size, e := b.p.Space().Size(x)
	if e != api.OK {
		b.t.Fatalf("Size(t) = %d", e)
	}
	return size
}

// Two pools in turns have nothing to do with each other.
func TestR5TwoPools(t *testing.T) {
	one, two := used(t), used(t)
	onesWant := counted(one.alloc(), 1, 0)
	two.setSize("o", 1)
	twosWant := api.Problem{Kind: api.ProblemSize, Where: 5, Found: 70, Wanted: 1}
	for range 3 {
		one.check("the first", onesWant)
		two.check("the second", twosWant)
	}
	x := one.begin()
	two.check("the second, while the first has a transaction", twosWant)
	x.Abort()
	two.darken()
	one.check("the first, while the second is off", onesWant)
}

// The order of the problems, and how many there are of each kind.
func TestP14_4ManyProblemsAtOnce(t *testing.T) {
	b := used(t)
	b.setOrigin("t", 7)
	b.setOrigin("a", 3)
	b.entry("c", func(v *api.Entry) { v.Size, v.Kind, v.Origin = 70, api.KindSnap, 0 })
	b.setSize("l", 262143)
	b.setSize("o", 69)
	root, last, lost := b.get("o").Root, b.alloc(), b.path("c", 70)[3]
	next := b.alloc()
	b.ref(root, next, next)
	b.unref(lost)
	want := []api.Problem{counted(root, 2, 1), counted(last, 1, 0), counted(next, 3, 0), counted(lost, 0, 1)}
	slices.SortFunc(want, func(a, b api.Problem) int { return a.Where - b.Where })
	for _, p := range []api.Problem{
		{Kind: api.ProblemOrigin, Where: 1, Found: 3}, {Kind: api.ProblemOrigin, Where: 3}, {Kind: api.ProblemOrigin, Where: 7, Found: 7},
		{Kind: api.ProblemSize, Where: 3, Found: 5000, Wanted: 70}, {Kind: api.ProblemSize, Where: 5, Found: 70, Wanted: 69},
		{Kind: api.ProblemSize, Where: 6, Found: 262144, Wanted: 262143},
	} {
		want = append(want, p)
	}
	b.check("many problems", want...)
	b.again()
	b.check("many problems, opened anew", want...)
	// With a root that the pool does not have all but the counts are told.
	b.setRoot("e", 301)
	b.setRoot("t", 262144)
	want = slices.DeleteFunc(want, func(p api.Problem) bool { return p.Kind == api.ProblemCount })
	beyond := []api.Problem{{Kind: api.ProblemRoot, Where: 4, Found: 301, Wanted: 300}, {Kind: api.ProblemRoot, Where: 7, Found: 262144, Wanted: 300}}
	b.check("roots beyond", append(beyond, want...)...)
	kinds := map[int]int{}
	for _, p := range b.checkByModel("in the end") {
		kinds[p.Kind]++
	}
	if !maps.Equal(kinds, map[int]int{api.ProblemRoot: 2, api.ProblemOrigin: 3, api.ProblemSize: 3}) {
		t.Errorf("of each kind there are %v", kinds)
	}
}
