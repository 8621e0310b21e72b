package pool

import (
	"cistern/api"
	"cistern/txn"
)

// volumes gives the volumes of a view.
func (p *Pool) volumes(t *txn.Txn) ([]api.Volume, api.Errno) {
	entries, e := p.catalog.List(t)
	if e != api.OK {
		return nil, e
	}
	told := make([]api.Volume, len(entries))
	for i, entry := range entries {
		pairs, e := p.maps.Pairs(t, entry.Root, 0, api.MaxSize)
		if e != api.OK {
			return nil, e
		}
		told[i] = volumeOf(entry, rangesOf(pairs))
	}
	return told, api.OK
}

func volumeOf(e api.Entry, mapped []api.Range) api.Volume {
	return api.Volume{Name: e.Name, ID: e.ID, Size: e.Size, Origin: e.Origin, Kind: e.Kind, Partial: e.Partial, Mapped: mapped}
}

// rangesOf gives the logical blocks of pairs, which rise, in as few ranges as hold them.
func rangesOf(pairs []api.Pair) []api.Range {
	var ranges []api.Range
	for _, pair := range pairs {
		last := len(ranges) - 1
		if last >= 0 && ranges[last].To == pair.Logical {
			ranges[last].To++
			continue
		}
		ranges = append(ranges, api.Range{From: pair.Logical, To: pair.Logical + 1})
	}
	return ranges
}
