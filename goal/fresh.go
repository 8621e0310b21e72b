package goal

import (
	"strconv"

	"cistern/api"
)

// snap takes the fresh snapshots. One may be taken of another that a clause ahead takes.
func (d *draft) snap() (int, api.Errno) {
	for _, c := range d.of(api.ClauseSnap) {
		source, name := d.volume(c.Other), c.Other+"@"+strconv.Itoa(d.Next)
		switch {
		case source == nil:
			return c.At, api.ErrGoalUnknown
		case source.Partial:
			return c.At, api.ErrGoalPartial
		case len(d.Volumes) >= api.MaxVolumes:
			return c.At, api.ErrCatalogFull
		case d.Next > api.MaxID:
			return c.At, api.ErrCatalogIDs
		case len(name) > api.MaxName || d.isThere(name):
			return c.At, api.ErrGoalName
		}
		d.branch(name, source, api.KindSnap)
		d.fresh = append(d.fresh, name)
	}
	return 0, api.OK
}
