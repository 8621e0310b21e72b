package dry

import (
	"slices"

	"cistern/api"
	"cistern/op"
)

// draft is a view over which operations are done, one behind the other, with the one whose turn it is.
type draft struct {
	api.View
	api.Op
	name  int // the place of the volume that Name names, -1: there is none
	other int // that of the one that Other names, likewise
}

// draftOf begins with a copy, all lists of it too: so what is done changes them in their places, however many operations come.
func draftOf(v api.View) *draft {
	v.Volumes = slices.Clone(v.Volumes)
	for i := range v.Volumes {
		v.Volumes[i].Mapped = slices.Clone(v.Volumes[i].Mapped)
	}
	return &draft{View: v}
}

// take does an operation, unless something is against it.
func (d *draft) take(o api.Op, rules []rule) api.Errno {
	if e := formOf(o); e != api.OK {
		return e
	}
	d.Op, d.name, d.other = o, d.placeOf(o.Name), d.placeOf(o.Other)
	r := rules[o.Kind]
	for _, look := range r.looks {
		if e := look(d); e != api.OK {
			return e
		}
	}
	r.do(d)
	return api.OK
}

// formOf tells what is against an operation's form. A size or a range that no pool takes is left to its rule: what the view has
// against the operation may come ahead of it.
func formOf(o api.Op) api.Errno {
	e := op.Check(o)
	if e == api.ErrActSize || e == api.ErrActRange {
		return api.OK
	}
	return e
}

func (d *draft) placeOf(name string) int {
	return slices.IndexFunc(d.Volumes, func(v api.Volume) bool { return v.Name == name })
}

func (d *draft) volume() *api.Volume { return &d.Volumes[d.name] }

func (d *draft) second() *api.Volume { return &d.Volumes[d.other] }
