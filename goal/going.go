package goal

import (
	"cmp"
	"slices"

	"cistern/api"
)

// leave says that the volume of a place goes by a clause. It is still there for the clauses behind that one: all go at the end.
func (d *draft) leave(place int, number int) {
	if first, ok := d.going[place]; !ok || number < first {
		d.going[place] = number
	}
}

func (d *draft) keep() (int, api.Errno) {
	kept, absent, snaps := d.firsts(api.ClauseKeep, otherOf), d.firsts(api.ClauseAbsent, nameOf), d.snapsByOrigin()
	for i, c := range d.of(api.ClauseKeep) {
		source := d.volume(c.Other)
		_, isAbsent := absent[c.Other]
		switch {
		case kept[c.Other] < i:
			return c.At, api.ErrGoalTwice
		case source == nil && !isAbsent:
			return c.At, api.ErrGoalUnknown
		case source != nil:
			d.leaveAll(allBut(c.Number, snaps[source.ID]), i)
		}
	}
	return 0, api.OK
}

func (d *draft) leaveAll(places []int, number int) {
	for _, place := range places {
		d.leave(place, number)
	}
}

// allBut gives a list without so many of its last ones.
func allBut(count int, places []int) []int {
	return places[:len(places)-min(max(count, 0), len(places))]
}

// snapsByOrigin gives the places of the snapshots by what they come from, those of the least IDs first.
func (d *draft) snapsByOrigin() map[int][]int {
	snaps := map[int][]int{}
	for place, x := range d.Volumes {
		if x.Kind == api.KindSnap {
			snaps[x.Origin] = append(snaps[x.Origin], place)
		}
	}
	for _, places := range snaps {
		slices.SortFunc(places, func(a int, b int) int { return cmp.Compare(d.Volumes[a].ID, d.Volumes[b].ID) })
	}
	return snaps
}

func (d *draft) absent() (int, api.Errno) {
	for i, c := range d.of(api.ClauseAbsent) {
		if d.isWanted(c.Name) {
			return c.At, api.ErrGoalTwice
		}
		if place, ok := d.places[c.Name]; ok {
			d.leave(place, i)
		}
	}
	return 0, api.OK
}

// exact looks at the first exact clause alone: what goes by another one goes by it.
func (d *draft) exact() (int, api.Errno) {
	number := slices.IndexFunc(d.clauses, func(c api.Clause) bool { return c.Kind == api.ClauseExact })
	if number < 0 {
		return 0, api.OK
	}
	named := d.named()
	for place, x := range d.Volumes {
		if x.Kind == api.KindVolume && named[x.Name] == 0 {
			d.leave(place, number)
		}
	}
	return 0, api.OK
}

// named gives the names that no exact clause lets go, each with how often clauses have it.
func (d *draft) named() map[string]int {
	names := map[string]int{}
	for _, c := range d.clauses {
		switch c.Kind {
		case api.ClauseVolume:
			names[c.Name]++
			names[c.Other]++
		case api.ClauseSnap, api.ClauseKeep, api.ClauseRename:
			names[c.Other]++
		}
	}
	return names
}

// askChildren asks whether a volume would go of which one comes that stays.
func (d *draft) askChildren() (int, api.Errno) {
	children := map[int]int{} // that stay: how many, by what they come from
	for place, x := range d.Volumes {
		if _, goes := d.going[place]; !goes {
			children[x.Origin]++
		}
	}
	first := len(d.clauses)
	for place, number := range d.going {
		if children[d.Volumes[place].ID] > 0 {
			first = min(first, number)
		}
	}
	if first < len(d.clauses) {
		return d.clauses[first].At, api.ErrGoalChildren
	}
	return 0, api.OK
}

// askRoom counts anew what there is behind each making, all that goes having gone: none of those that were made goes.
func (d *draft) askRoom() (int, api.Errno) {
	count := len(d.Volumes) - len(d.going) - len(d.made)
	for _, number := range d.made {
		count++
		if count > api.MaxVolumes {
			return d.clauses[number].At, api.ErrCatalogFull
		}
	}
	return 0, api.OK
}
