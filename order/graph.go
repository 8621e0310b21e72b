package order

import (
	"container/heap"
	"iter"
	"slices"

	"cistern/api"
)

// graph is things and edges; the edges of one Before hang together, so that its neighbours are found without the others.
type graph struct {
	count int
	edges []api.Edge
	first []int // of each thing, the number of an edge of which it is the Before, or -1
	next  []int // of each edge, that of another one with its Before, or -1
}

func graphOf(count int, edges []api.Edge) *graph {
	g := &graph{count, edges, slices.Repeat([]int{-1}, count), make([]int, len(edges))}
	for i, e := range edges {
		g.next[i] = g.first[e.Before]
		g.first[e.Before] = i
	}
	return g
}

// behind goes over the neighbours that a thing stands ahead of, once for each edge.
func (g *graph) behind(thing int) iter.Seq[int] {
	return func(yield func(int) bool) {
		for i := g.first[thing]; i >= 0; i = g.next[i] {
			if !yield(g.edges[i].After) {
				return
			}
		}
	}
}

// arranged gives things in order as long as one is ready, and for how many edges each waits then: those that stand wait for none.
func (g *graph) arranged() ([]int, []int) {
	waits := make([]int, g.count)
	for _, e := range g.edges {
		waits[e.After]++
	}
	ready := &least{}
	for thing, n := range waits {
		if n == 0 {
			// These rise, and what rises is a heap.
			*ready = append(*ready, thing)
		}
	}
	var out []int
	for ready.Len() > 0 {
		thing := heap.Pop(ready).(int)
		out = append(out, thing)
		for other := range g.behind(thing) {
			waits[other]--
			if waits[other] == 0 {
				heap.Push(ready, other)
			}
		}
	}
	return out, waits
}

func (g *graph) order() ([]int, api.Errno) {
	out, _ := g.arranged()
	if len(out) < g.count {
		return nil, api.ErrOrderCircle
	}
	return out, api.OK
}

// circle goes against the edges, from what never becomes ready to what it waits for, which never becomes ready either: so it
// must come to a thing for the second time.
func (g *graph) circle() []int {
	_, waits := g.arranged()
	ahead := make([]int, g.count)
	thing := -1
	for _, e := range g.edges {
		if waits[e.Before] > 0 {
			ahead[e.After] = e.Before
			thing = e.After
		}
	}
	if thing < 0 {
		return nil
	}
	var path []int
	met := slices.Repeat([]int{-1}, g.count)
	for met[thing] < 0 {
		met[thing] = len(path)
		path = append(path, thing)
		thing = ahead[thing]
	}
	out := slices.Clone(path[met[thing]:])
	slices.Reverse(out)
	return out
}
