package order

import "cistern/api"

// web is the edges of steps. Where all of some steps stand ahead of all of some others, a knot stands between them, or the edges
// would be as many as there are pairs. Knots have numbers below 0, so that each comes as soon as it is ready, ahead of all steps
// that are: then the steps stand as they would without it.
type web struct {
	edges []api.Edge
	gates [groups + 1]int // the knots ahead of each group, and the one behind the last
	named map[meeting]int
	knots int
}

// meeting is what the steps that a knot stands between have in common.
type meeting struct {
	group int
	name  string
}

func newWeb() *web {
	w := &web{named: map[meeting]int{}}
	for g := range w.gates {
		w.gates[g] = w.newKnot()
		if g > 0 {
			w.tie(w.gates[g-1], w.gates[g])
		}
	}
	return w
}

func (w *web) newKnot() int {
	w.knots++
	return -w.knots
}

// knot gives the knot of a group and a name.
func (w *web) knot(group int, name string) int {
	at := meeting{group, name}
	if _, ok := w.named[at]; !ok {
		w.named[at] = w.newKnot()
	}
	return w.named[at]
}

func (w *web) tie(before, after int) {
	w.edges = append(w.edges, api.Edge{Before: before, After: after})
}

// enclose lays a step between the gates of its group.
func (w *web) enclose(step int, group int) {
	w.tie(w.gates[group], step)
	w.tie(step, w.gates[group+1])
}

// order gives the order of so many steps.
func (w *web) order(count int) ([]int, api.Errno) {
	for i, e := range w.edges {
		w.edges[i] = api.Edge{Before: e.Before + w.knots, After: e.After + w.knots}
	}
	things, e := graphOf(w.knots+count, w.edges).order()
	if e != api.OK {
		return nil, e
	}
	var steps []int
	for _, thing := range things {
		if thing >= w.knots {
			steps = append(steps, thing-w.knots)
		}
	}
	return steps, api.OK
}
