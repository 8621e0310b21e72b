package pool

import (
	"cistern/api"
	"cistern/radix"
	"cistern/txn"
)

// volumes gives the volumes of a view.
func (p *Pool) volumes(t *txn.Txn) ([]api.Volume, api.Errno) {
	entries, e := p.catalog.List(t)
	if e != api.OK {
		return nil, e
	}
	told := make([]api.Volume, len(entries))
	for i, entry := range entries {
		pairs, e := p.maps.Pairs(t, entry.Root, 0, api.MaxSize)
		if e != api.OK {
			return nil, e
		}
		told[i] = volumeOf(entry, radix.Ranges(pairs))
	}
	return told, api.OK
}

func volumeOf(e api.Entry, mapped []api.Range) api.Volume {
	return api.Volume{Name: e.Name, ID: e.ID, Size: e.Size, Origin: e.Origin, Kind: e.Kind, Partial: e.Partial, Mapped: mapped}
}
