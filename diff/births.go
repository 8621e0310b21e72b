package diff

import (
	"cmp"
	"slices"
	"sort"

	"cistern/api"
	"cistern/goal"
)

// births are the volumes that are there on the way to a goal, each as it was born, by rising ID in each list.
type births struct {
	old   []api.Volume // the view's, by their names behind the renames
	fresh []api.Volume
	made  []api.Volume
	known map[int]api.Volume // all of them, by their IDs
}

// birthsOf asks for the goal of the renames and snapshots alone: there nothing is resized yet, and nothing has gone. It is not
// refused, since that of all clauses was not. What is made later never goes, so it is found in the goal of all clauses: it has its
// birth from its source, or, without one, its size there.
func birthsOf(cs []api.Clause, v api.View, end api.View) births {
	snapped, _, _ := goal.Goal(ofKinds(cs, api.ClauseRename, api.ClauseSnap), v)
	b := births{known: byID(snapped.Volumes)}
	b.old, b.fresh = parted(snapped.Volumes, v.Next)
	_, b.made = parted(end.Volumes, snapped.Next)
	for i, x := range b.made {
		x.Mapped = nil
		if x.Origin != 0 {
			from := b.source(x)
			x.Size, x.Mapped = from.Size, from.Mapped
		}
		b.made[i], b.known[x.ID] = x, x
	}
	return b
}

func ofKinds(cs []api.Clause, kinds ...int) []api.Clause {
	return slices.DeleteFunc(slices.Clone(cs), func(c api.Clause) bool { return !slices.Contains(kinds, c.Kind) })
}

// parted gives volumes by rising ID: those below an ID, and the others.
func parted(volumes []api.Volume, first int) ([]api.Volume, []api.Volume) {
	list := slices.Clone(volumes)
	slices.SortStableFunc(list, func(a api.Volume, b api.Volume) int { return cmp.Compare(a.ID, b.ID) })
	n := sort.Search(len(list), func(i int) bool { return list[i].ID >= first })
	return list[:n], list[n:]
}

func (b *births) all() []api.Volume { return slices.Concat(b.old, b.fresh, b.made) }

// source gives what a volume was made of, as it was born.
func (b *births) source(x api.Volume) api.Volume { return b.known[x.Origin] }
