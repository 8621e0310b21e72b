package goal

import "cistern/api"

// rename gives volumes their new names, all at one time: whether one may move hangs on which others do.
func (d *draft) rename() (int, api.Errno) {
	olds, news := d.firsts(api.ClauseRename, nameOf), d.firsts(api.ClauseRename, otherOf)
	for i, c := range d.of(api.ClauseRename) {
		if olds[c.Name] < i || news[c.Other] < i {
			return c.At, api.ErrGoalTwice
		}
	}
	for _, c := range d.of(api.ClauseRename) {
		if e := d.askRename(c, olds); e != api.OK {
			return c.At, e
		}
	}
	d.move()
	return 0, api.OK
}

// askRename tells what is against a rename: olds has the numbers of the renames by their old names.
func (d *draft) askRename(c api.Clause, olds map[string]int) api.Errno {
	old := d.volume(c.Name)
	if c.Name == c.Other {
		return unless(old != nil, api.ErrGoalRename)
	}
	_, leaves := olds[c.Other] // for another name, since no two renames have one new name
	stays := d.isThere(c.Other) && !leaves
	switch {
	case old == nil:
		return unless(stays, api.ErrGoalRename) // it was done already
	case old.Partial:
		return api.ErrGoalPartial
	}
	return unless(!stays, api.ErrGoalRename)
}

// move renames: places are those by the old names until all is done.
func (d *draft) move() {
	for _, c := range d.of(api.ClauseRename) {
		if old := d.volume(c.Name); old != nil {
			old.Name = c.Other
		}
	}
	d.places = placesOf(d.Volumes)
}

// unless gives the error, unless what is asked holds.
func unless(holds bool, e api.Errno) api.Errno {
	if holds {
		return api.OK
	}
	return e
}
