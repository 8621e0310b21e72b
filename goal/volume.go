package goal

import (
	"container/heap"
	"slices"
	"sort"

	"cistern/api"
)

func (d *draft) askVolumes() (int, api.Errno) {
	for i, c := range d.of(api.ClauseVolume) {
		if e := d.askVolume(i, c); e != api.OK {
			return c.At, e
		}
	}
	return 0, api.OK
}

func (d *draft) askVolume(number int, c api.Clause) api.Errno {
	x := d.volume(c.Name)
	switch {
	case d.wanted[c.Name] < number:
		return api.ErrGoalTwice
	case c.Number < 1 || c.Number > api.MaxSize:
		return api.ErrGoalSize
	case x == nil:
		return d.askNew(c)
	}
	return d.askOld(c, x)
}

// askOld asks of a clause for a volume that is there.
func (d *draft) askOld(c api.Clause, x *api.Volume) api.Errno {
	if x.Kind == api.KindSnap {
		return api.ErrGoalKind
	}
	if c.Other != "" {
		source := d.volume(c.Other)
		switch {
		case source == nil && !d.isWanted(c.Other):
			return api.ErrGoalUnknown
		case source == nil || source.ID != x.Origin:
			return api.ErrGoalOrigin
		}
	}
	isAsWanted := x.Size == c.Number && !(c.Thick && !isFull(x))
	return unless(!x.Partial || isAsWanted, api.ErrGoalPartial)
}

// askNew asks of a clause for a volume that is to be made.
func (d *draft) askNew(c api.Clause) api.Errno {
	if c.Other == "" {
		return api.OK
	}
	source := d.volume(c.Other)
	if source == nil {
		return unless(d.isWanted(c.Other), api.ErrGoalUnknown)
	}
	return unless(!source.Partial, api.ErrGoalPartial)
}

func (d *draft) isWanted(name string) bool {
	_, ok := d.wanted[name]
	return ok
}

func isFull(x *api.Volume) bool { return slices.Equal(x.Mapped, whole(x.Size)) }

func whole(size int) []api.Range { return []api.Range{{From: 0, To: size}} }

// makeVolumes makes the volumes that are not there, each as soon as its source is, the first in the list of those that can be made.
func (d *draft) makeVolumes() (int, api.Errno) {
	ready, waiting := &queue{}, map[string][]int{}
	for i, c := range d.of(api.ClauseVolume) {
		switch {
		case d.isThere(c.Name):
		case c.Other == "" || d.isThere(c.Other):
			heap.Push(ready, i)
		default:
			waiting[c.Other] = append(waiting[c.Other], i)
		}
	}
	for ready.Len() > 0 {
		i := heap.Pop(ready).(int)
		c := d.clauses[i]
		if d.Next > api.MaxID {
			return c.At, api.ErrCatalogIDs
		}
		d.makeVolume(c)
		d.made = append(d.made, i)
		for _, next := range waiting[c.Name] {
			heap.Push(ready, next)
		}
	}
	return d.askCircle()
}

func (d *draft) makeVolume(c api.Clause) {
	if c.Other == "" {
		d.add(api.Volume{Name: c.Name, Size: c.Number, Kind: api.KindVolume})
		return
	}
	d.branch(c.Name, d.volume(c.Other), api.KindVolume)
}

// askCircle asks, behind the making, whether there is a volume that could not be made.
func (d *draft) askCircle() (int, api.Errno) {
	for _, c := range d.of(api.ClauseVolume) {
		if !d.isThere(c.Name) {
			return c.At, api.ErrGoalCircle
		}
	}
	return 0, api.OK
}

// sizeVolumes comes behind all of the making: clones are taken of what their sources were.
func (d *draft) sizeVolumes() (int, api.Errno) {
	for _, c := range d.of(api.ClauseVolume) {
		x := d.volume(c.Name)
		x.Size = c.Number
		if c.Thick {
			x.Mapped = whole(c.Number)
		} else {
			x.Mapped = below(x.Mapped, c.Number)
		}
	}
	return 0, api.OK
}

// below gives what a list of ranges has below a size: the list itself, if that is all of it.
func below(list []api.Range, size int) []api.Range {
	n := sort.Search(len(list), func(i int) bool { return list[i].To > size })
	if n == len(list) {
		return list
	}
	kept := slices.Clone(list[:n])
	if list[n].From < size {
		kept = append(kept, api.Range{From: list[n].From, To: size})
	}
	return kept
}

// queue is a heap of the numbers of clauses.
type queue struct{ sort.IntSlice }

func (q *queue) Push(number any) { q.IntSlice = append(q.IntSlice, number.(int)) }

func (q *queue) Pop() any {
	last := len(q.IntSlice) - 1
	number := q.IntSlice[last]
	q.IntSlice = q.IntSlice[:last]
	return number
}
