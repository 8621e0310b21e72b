package goal

import (
	"slices"
	"strings"

	"cistern/api"
)

// view is one that is being changed. Its volumes stand in no order of names: those that are made come behind the others, as they are
// made, so that each keeps its place. Volumes that hold the same may share a list of ranges, which nobody writes into.
type view struct {
	api.View
	places map[string]int // of the volumes, by their names
}

func viewOf(v api.View) view {
	v.Volumes = slices.Clone(v.Volumes)
	return view{v, placesOf(v.Volumes)}
}

func placesOf(volumes []api.Volume) map[string]int {
	places := map[string]int{}
	for i, x := range volumes {
		if _, isLater := places[x.Name]; !isLater {
			places[x.Name] = i
		}
	}
	return places
}

func (v *view) isThere(name string) bool {
	_, ok := v.places[name]
	return ok
}

// volume gives the one of a name, or nil. It is written through until a further one is made.
func (v *view) volume(name string) *api.Volume {
	if i, ok := v.places[name]; ok {
		return &v.Volumes[i]
	}
	return nil
}

// add makes a volume, with the number that is next.
func (v *view) add(x api.Volume) {
	x.ID = v.Next
	v.Next++
	v.places[x.Name] = len(v.Volumes)
	v.Volumes = append(v.Volumes, x)
}

// branch makes a volume that begins as another one.
func (v *view) branch(name string, from *api.Volume, kind int) {
	v.add(api.Volume{Name: name, Size: from.Size, Origin: from.ID, Kind: kind, Mapped: from.Mapped})
}

// without gives the view without the volumes of some places, its volumes by name, in lists of its own.
func (v *view) without(going map[int]int) api.View {
	out := v.View
	out.Volumes = nil
	for i, x := range v.Volumes {
		if _, goes := going[i]; !goes {
			x.Mapped = slices.Clone(x.Mapped)
			out.Volumes = append(out.Volumes, x)
		}
	}
	slices.SortStableFunc(out.Volumes, func(a api.Volume, b api.Volume) int { return strings.Compare(a.Name, b.Name) })
	return out
}
