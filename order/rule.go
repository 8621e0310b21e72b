package order

import "cistern/api"

// The groups of steps, in their order.
const (
	groupRename = iota
	groupSnap
	groupRemove
	groupMake
	groupShrink
	groupResize
	groupFill
	groups
)

func (s *scene) group(x step) int {
	switch x := x.(type) {
	case snap:
		return groupSnap
	case remove:
		return groupRemove
	case create, clone:
		return groupMake
	case resize:
		if x.To <= s.born(x.Name) {
			return groupShrink
		}
		return groupResize
	case fill:
		return groupFill
	}
	return groupRename
}

// order gives the numbers of the steps in their order.
func (s *scene) order() ([]int, api.Errno) {
	w := newWeb()
	for i, x := range s.steps {
		w.enclose(i, s.group(x))
		s.bind(w, i, x)
	}
	return w.order(len(s.steps))
}

// bind lays the edges that a step has within its group. Snapshots, resizes and fills have none: the Order gives them by their
// numbers. What goes aside stands ahead of its way back by the rest of its circle, which lies between them.
func (s *scene) bind(w *web, i int, x step) {
	switch x := x.(type) {
	case rename:
		if x.Name != x.Other {
			w.tie(i, w.knot(groupRename, x.Name))
			w.tie(w.knot(groupRename, x.Other), i)
		}
	case aside:
		w.tie(i, w.knot(groupRename, x.Name))
	case back:
		w.tie(w.knot(groupRename, x.Other), i)
	case remove:
		w.tie(w.knot(groupRemove, x.Name), i)
		if source := s.source(x.Name); source != x.Name {
			w.tie(i, w.knot(groupRemove, source))
		}
	case create:
		w.tie(i, w.knot(groupMake, x.Name))
	case clone:
		w.tie(i, w.knot(groupMake, x.Name))
		w.tie(w.knot(groupMake, x.Other), i)
	}
}
