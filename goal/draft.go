package goal

import (
	"iter"

	"cistern/api"
)

// draft is a view on its way to what clauses denote.
type draft struct {
	view
	clauses []api.Clause
	wanted  map[string]int // the names of the volume clauses, each with the number of the first one
	fresh   []string       // the names of the snapshots that were taken
	made    []int          // the numbers of the clauses by which volumes were made, in the order of making
	going   map[int]int    // the places of the volumes that go, each with the number of the first clause by which it goes
}

func draftOf(cs []api.Clause, v api.View) *draft {
	d := &draft{view: viewOf(v), clauses: cs, going: map[int]int{}}
	d.wanted = d.firsts(api.ClauseVolume, nameOf)
	return d
}

// through takes the draft through steps, one behind the other. The first error ends them, and nothing is left of the draft then.
func (d *draft) through(steps ...func(*draft) (int, api.Errno)) (at int, e api.Errno) {
	defer func() {
		if e != api.OK {
			*d = draft{}
		}
	}()
	for _, step := range steps {
		if at, e = step(d); e != api.OK {
			return at, e
		}
	}
	return 0, api.OK
}

// left gives the view when all that goes is gone.
func (d *draft) left() api.View { return d.without(d.going) }

// of goes through the clauses of a kind, each with its number in the list.
func (d *draft) of(kind int) iter.Seq2[int, api.Clause] {
	return func(yield func(int, api.Clause) bool) {
		for i, c := range d.clauses {
			if c.Kind == kind && !yield(i, c) {
				return
			}
		}
	}
}

// firsts gives the names that the clauses of a kind have in a field, each with the number of the first clause that has it.
func (d *draft) firsts(kind int, field func(api.Clause) string) map[string]int {
	found := map[string]int{}
	for i, c := range d.of(kind) {
		if _, isLater := found[field(c)]; !isLater {
			found[field(c)] = i
		}
	}
	return found
}

func nameOf(c api.Clause) string { return c.Name }

func otherOf(c api.Clause) string { return c.Other }
