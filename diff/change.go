package diff

import (
	"cistern/api"
	"cistern/dry"
	"cistern/goal"
)

// change is all that lies between a view and a goal.
type change struct {
	births
	before map[int]api.Volume // the view's volumes, by their IDs
	after  map[int]api.Volume // the goal's
	thick  map[string]int     // the sizes of the volumes that clauses want thick, by their names
}

func changeOf(cs []api.Clause, v api.View, end api.View) (*change, api.Errno) {
	if denoted, _, e := goal.Goal(cs, v); e != api.OK || !dry.Same(denoted, end) {
		return nil, api.ErrDiffGoal
	}
	return &change{birthsOf(cs, v, end), byID(v.Volumes), byID(end.Volumes), thickOf(cs)}, api.OK
}

func byID(volumes []api.Volume) map[int]api.Volume {
	found := map[int]api.Volume{}
	for _, x := range volumes {
		found[x.ID] = x
	}
	return found
}

// thickOf takes the sizes from the clauses: the goal has just these, and they have a bound, whatever view comes in.
func thickOf(cs []api.Clause) map[string]int {
	sizes := map[string]int{}
	for _, c := range cs {
		if c.Kind == api.ClauseVolume && c.Thick {
			sizes[c.Name] = c.Number
		}
	}
	return sizes
}
