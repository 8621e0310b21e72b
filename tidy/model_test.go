package tidy_test

import (
	"fmt"
	"maps"
	"slices"
	"strings"
	"testing"

	"cistern/api"
	"cistern/dry"
	"cistern/tidy"
)

// scene is what some operations have come to: the view that layer 21 tells, and what the blocks of each volume read, by its name.
// What reads zeros is left out.
type scene struct {
	view  api.View
	reads map[string]map[int]string
}

func sceneOf(v api.View) *scene {
	s := &scene{v, map[string]map[int]string{}}
	for _, x := range v.Volumes {
		s.reads[x.Name] = map[int]string{}
		for _, r := range x.Mapped {
			for l := r.From; l < r.To; l++ {
				s.reads[x.Name][l] = fmt.Sprintf("%d/%d", x.ID, l)
			}
		}
	}
	return s
}

func (s *scene) volume(name string) (api.Volume, bool) {
	for _, x := range s.view.Volumes {
		if x.Name == name {
			return x, true
		}
	}
	return api.Volume{}, false
}

// maps tells whether a block of a volume is mapped.
func (s *scene) maps(name string, l int) bool {
	x, _ := s.volume(name)
	return slices.ContainsFunc(x.Mapped, func(r api.Range) bool { return r.From <= l && l < r.To })
}

// do does an operation, by the chapter's words.
func (s *scene) do(o api.Op) api.Errno {
	behind, e := dry.Do(s.view, o)
	if e != api.OK {
		return e
	}
	s.view = behind
	switch o.Kind {
	case api.OpCreate:
		s.reads[o.Name] = map[int]string{}
	case api.OpSnap, api.OpClone, api.OpRestore:
		s.reads[o.Name] = maps.Clone(s.reads[o.Other])
	case api.OpRename:
		s.reads[o.Other] = s.reads[o.Name]
		delete(s.reads, o.Name)
	case api.OpDelete:
		delete(s.reads, o.Name)
	case api.OpWrite:
		s.reads[o.Name][o.From] = string(o.Data)
		if strings.Trim(string(o.Data), "\x00") == "" {
			delete(s.reads[o.Name], o.From)
		}
	case api.OpDiscard, api.OpResize:
		for l := range s.reads[o.Name] {
			if !s.maps(o.Name, l) {
				delete(s.reads[o.Name], l)
			}
		}
	}
	return api.OK
}

func (s *scene) isLike(other *scene) bool {
	return dry.Same(s.view, other.view) && maps.EqualFunc(s.reads, other.reads, maps.Equal[map[int]string, map[int]string])
}

// sceneBehind does a list; with an error it gives the number of the operation that has it.
func sceneBehind(v api.View, ops []api.Op) (*scene, int, api.Errno) {
	s := sceneOf(v)
	for i, o := range ops {
		if e := s.do(o); e != api.OK {
			return s, i, e
		}
	}
	return s, 0, api.OK
}

// isIdle tells whether an operation does nothing, by the chapter's words, block by block.
func (s *scene) isIdle(o api.Op) bool {
	count, mapped := 0, 0
	for l := o.From; l < o.To; l++ {
		count++
		if s.maps(o.Name, l) {
			mapped++
		}
	}
	x, _ := s.volume(o.Name)
	switch o.Kind {
	case api.OpResize:
		return o.To == x.Size
	case api.OpDiscard:
		return mapped == 0
	case api.OpFill:
		return mapped == count
	case api.OpRestore:
		return o.Name == o.Other
	}
	return false
}

// isPair tells whether of two operations one can be spared; the scene is that ahead of both.
func (s *scene) isPair(a api.Op, b api.Op) bool {
	if a.Kind != b.Kind {
		return false
	}
	if a.Kind == api.OpRename {
		return a.Other == b.Name
	}
	if a.Name != b.Name {
		return false
	}
	from, to := min(a.From, b.From), max(a.To, b.To)
	touch := to-from <= (a.To-a.From)+(b.To-b.From)
	x, _ := s.volume(a.Name)
	switch a.Kind {
	case api.OpResize:
		return a.To >= b.To || a.To >= x.Size
	case api.OpDiscard:
		return touch
	case api.OpFill:
		return touch && to-from <= 32
	case api.OpRestore:
		return a.Other != a.Name && b.Other != b.Name
	}
	return false
}

// toSpare tells of a list what is idle and what is a pair, each with its place.
func toSpare(v api.View, ops []api.Op) []string {
	s := sceneOf(v)
	var out []string
	for i, o := range ops {
		if s.isIdle(o) {
			out = append(out, fmt.Sprintf("%d idle", i))
		}
		if i+1 < len(ops) && s.isPair(o, ops[i+1]) {
			out = append(out, fmt.Sprintf("%d pair", i))
		}
		if e := s.do(o); e != api.OK {
			return append(out, fmt.Sprintf("%d refused: %d", i, e))
		}
	}
	return out
}

// checkList holds both calls to all that the chapter promises of a view and a list, and gives what Ops answers.
func checkList(t *testing.T, v api.View, ops []api.Op) []api.Op {
	t.Helper()
	end, _, want := sceneBehind(v, ops)
	got, e := tidy.Ops(v, ops)
	if e != want || e != api.OK && len(got) > 0 {
		t.Fatalf("P25.1: over %s\nOps(%s) = %s, %d; want %d", toldView(v), told(ops), told(got), e, want)
	}
	checkOnce(t, v, ops, end, want)
	if e != api.OK {
		return nil
	}
	if behind, _, e := sceneBehind(v, got); len(got) > len(ops) || e != api.OK || !behind.isLike(end) || len(toSpare(v, got)) > 0 {
		t.Fatalf("P25.1: over %s\nOps(%s) = %s,\nwhich comes to %s (%d) and has to spare %v", toldView(v), told(ops), told(got), toldView(behind.view), e, toSpare(v, got))
	}
	again, e := tidy.Ops(v, got)
	if behind, _, _ := sceneBehind(v, again); len(again) != len(got) || e != api.OK || !behind.isLike(end) {
		t.Fatalf("P25.3: over %s\nOps(%s) = %s, %d", toldView(v), told(got), told(again), e)
	}
	return got
}

// checkOnce holds Once, and Once of what it gives, until nothing is to spare.
func checkOnce(t *testing.T, v api.View, ops []api.Op, end *scene, want api.Errno) {
	t.Helper()
	for {
		got, at, e := tidy.Once(v, ops)
		if e != want || e != api.OK && (len(got) > 0 || at != 0) {
			t.Fatalf("P25.2: over %s\nOnce(%s) = %s, %d, %d; want %d", toldView(v), told(ops), told(got), at, e, want)
		}
		if e != api.OK {
			return
		}
		if at == -1 {
			if !isSame(got, ops) || len(toSpare(v, ops)) > 0 {
				t.Fatalf("P25.2: over %s\nOnce(%s) = %s, -1; to spare: %v", toldView(v), told(ops), told(got), toSpare(v, ops))
			}
			return
		}
		behind, _, e := sceneBehind(v, got)
		if len(got) >= len(ops) || e != api.OK || !behind.isLike(end) || at != firstUnlike(ops, got) {
			t.Fatalf("P25.2: over %s\nOnce(%s) = %s, %d,\nwhich comes to %s (%d)", toldView(v), told(ops), told(got), at, toldView(behind.view), e)
		}
		ops = got
	}
}

// firstUnlike gives the least place at which a shorter list has another operation, or none any more.
func firstUnlike(ops []api.Op, shorter []api.Op) int {
	for i := range ops {
		if i == len(shorter) || !isSameOp(ops[i], shorter[i]) {
			return i
		}
	}
	return -1
}

// view draws a view of some small volumes.
func (d *drawing) view() api.View {
	v := api.View{Capacity: 1 + d.below(300), Next: 9}
	v.Free = d.below(v.Capacity + 1)
	for i, name := range []string{"a", "b", "c", "d"}[:1+d.below(4)] {
		x := api.Volume{Name: name, ID: 1 + (i*3+1)%4, Size: 1 + d.below(d.number(4, 12, 40, 80)), Partial: d.below(12) == 0}
		if x.ID > 1 && d.below(3) == 0 {
			x.Origin = 1 + d.below(x.ID-1)
		}
		for at := d.below(3); at < x.Size; {
			to := min(x.Size, at+1+d.below(d.number(2, 6, 70)))
			x.Mapped = append(x.Mapped, api.Range{From: at, To: to})
			at = to + 1 + d.below(d.number(2, 6, 70))
		}
		v.Volumes = append(v.Volumes, x)
	}
	return v
}

// rangeOf draws a range of a volume, a short one mostly.
func (d *drawing) rangeOf(x api.Volume) (int, int) {
	from := d.below(x.Size + 1)
	return from, min(x.Size, from+d.below(d.number(1, 2, 3, 6, 20, 34, 70)))
}

// op draws an operation over a view: of the volume and the kind of the last one, more often than not.
func (d *drawing) op(v api.View, last api.Op) api.Op {
	o := api.Op{Kind: 1 + d.below(11), Name: d.text("a", "b", "c", "d", "e", "f")}
	if last.Kind > 0 && d.below(3) > 0 {
		o.Kind = last.Kind
	}
	x := api.Volume{Name: "a", Size: 10}
	if len(v.Volumes) > 0 {
		x = v.Volumes[d.below(len(v.Volumes))]
		if i := slices.IndexFunc(v.Volumes, func(x api.Volume) bool { return x.Name == last.Name || x.Name == last.Other }); i >= 0 && d.below(4) > 0 {
			x = v.Volumes[i]
		}
	}
	switch o.Kind {
	case api.OpCreate:
		o.To = 1 + d.below(80)
	case api.OpSnap, api.OpClone:
		o.Other = x.Name
	case api.OpResize:
		o.Name, o.To = x.Name, max(1, d.number(x.Size, x.Size+1, x.Size-1, 1+d.below(80), last.To))
	case api.OpRename:
		o.Name, o.Other = x.Name, o.Name
	case api.OpDelete:
		o.Name = x.Name
	case api.OpRestore:
		o.Name, o.Other = x.Name, o.Name
	case api.OpWrite:
		o.Name, o.From, o.Data = x.Name, d.below(x.Size), data(d.below(3))
	case api.OpDiscard, api.OpFill:
		o.Name = x.Name
		o.From, o.To = d.rangeOf(x)
		if last.Kind == o.Kind && last.Name == o.Name && d.below(2) == 0 {
			o.From = max(0, d.number(last.To, last.To+1, last.To-1, last.From))
			o.To = min(x.Size, o.From+d.below(20))
		}
	case api.OpExtend:
		o.Name, o.To = "", v.Capacity+1+d.below(3)
	}
	return o
}

// list draws operations that nothing is against, but for the last one, sometimes.
func (d *drawing) list(v api.View, most int) []api.Op {
	var ops []api.Op
	last := api.Op{}
	for range d.below(most + 1) {
		o := d.op(v, last)
		behind, e := dry.Do(v, o)
		if e != api.OK && d.below(60) > 0 {
			continue
		}
		ops = append(ops, o)
		if e != api.OK {
			break
		}
		v, last = behind, o
	}
	return ops
}

// Drawn lists over drawn views.
func TestP25_1AgainstTheModel(t *testing.T) {
	d := &drawing{seed: 1}
	spared, left, refused := map[int]int{}, map[int]int{}, 0
	for range 12000 {
		v := d.view()
		ops := d.list(v, 14)
		if len(toSpare(v, ops)) == 0 && d.below(2) == 0 {
			continue
		}
		_, _, e := sceneBehind(v, ops)
		got := checkList(t, v, ops)
		if e != api.OK {
			refused++
			continue
		}
		for _, o := range ops {
			spared[o.Kind]++
		}
		for _, o := range got {
			spared[o.Kind]--
			left[o.Kind]++
		}
	}
	for kind := 1; kind <= 11; kind++ {
		want := 0
		if slices.Contains([]int{api.OpResize, api.OpRename, api.OpRestore, api.OpDiscard, api.OpFill}, kind) {
			want = 300
		}
		if left[kind] < 300 || spared[kind] < want {
			t.Errorf("of kind %d %d were spared and %d were left; all: %v, %v", kind, spared[kind], left[kind], spared, left)
		}
	}
	if refused < 300 {
		t.Errorf("%d lists were refused", refused)
	}
}

// All lists of two and of three out of some operations over a small view that nothing is against.
func TestP25_1AllShortLists(t *testing.T) {
	v := api.View{Capacity: 100, Free: 80, Next: 4, Volumes: []api.Volume{
		{Name: "a", ID: 1, Size: 4, Mapped: ranges(0, 1, 2, 3)},
		{Name: "b", ID: 2, Size: 3, Mapped: ranges(0, 3)},
		{Name: "s", ID: 3, Size: 2, Origin: 1, Kind: api.KindSnap},
	}}
	words := "resize a 2; resize a 3; resize a 4; resize a 5; rename a to c; rename c to a; rename c to d; rename b to a; " +
		"discard a 0 1; discard a 1 2; discard a 2 3; discard a 0 3; discard c 0 2; discard a 1 1; fill a 0 1; fill a 1 2; fill a 2 4; fill a 3 3; fill c 1 3; " +
		"restore a from b; restore a from s; restore a from a; restore b from a; restore c from b; write a 1 5; delete b; create c 4; clone c of a; snap c of s"
	ops := list(t, words)
	count := 0
	for _, one := range ops {
		first, e := dry.Do(v, one)
		if e != api.OK {
			continue
		}
		for _, two := range ops {
			second, e := dry.Do(first, two)
			if e != api.OK {
				continue
			}
			checkList(t, v, []api.Op{one, two})
			for _, three := range ops {
				if _, e := dry.Do(second, three); e == api.OK {
					checkList(t, v, []api.Op{one, two, three})
					count++
				}
			}
		}
	}
	if count < 3000 {
		t.Errorf("%d lists of three", count)
	}
}
