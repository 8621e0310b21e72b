package dry

import (
	"slices"

	"cistern/api"
	"cistern/op"
)

// draft is a view over which operations are done, one behind the other, with the one whose turn it is.
type draft struct {
	api.View
	api.Op
	name  int // the place of the volume that Name names, -1: there is none
	other int // that of the one that Other names, likewise
}

// draftOf begins with a copy, all lists of it too: so what is done changes them in their places, however many operations come.
func draftOf(v api.View) *draft {
	v.Volumes = slices.Clone(v.Volumes)
	for i := range v.Volumes {
		v.Volumes[i].Mapped = slices.Clone(v.Volumes[i].Mapped)
	}
	return &draft{View: v}
}

// follow does operations, one behind the other, and calls ahead when each has its turn. The first that something is against ends
// it: its number is told, and what that is.
func (d *draft) follow(ops []api.Op, ahead func()) (int, api.Errno) {
	rules := rulesOfKinds()
	for i, o := range ops {
		if e := d.ask(o, rules); e != api.OK {
			return i, e
		}
		ahead()
		rules[o.Kind].do(d)
	}
	return 0, api.OK
}

// ask gives an operation its turn, and tells what is against it.
func (d *draft) ask(o api.Op, rules []rule) api.Errno {
	if e := formOf(o); e != api.OK {
		return e
	}
	d.Op, d.name, d.other = o, d.numberOf(o.Name), d.numberOf(o.Other)
	for _, look := range rules[o.Kind].looks {
		if e := look(d); e != api.OK {
			return e
		}
	}
	return api.OK
}

// place tells what the operation whose turn it is meets.
func (d *draft) place() Place {
	if d.name < 0 {
		return Place{}
	}
	v, r := d.volume(), api.Range{From: d.From, To: d.To}
	return Place{Size: v.Size, Bare: isBare(v.Mapped, r), Full: isFull(v.Mapped, r)}
}

// formOf tells what is against an operation's form. A size or a range that no pool takes is left to its rule: what the view has
// against the operation may come ahead of it.
func formOf(o api.Op) api.Errno {
	e := op.Check(o)
	if e == api.ErrActSize || e == api.ErrActRange {
		return api.OK
	}
	return e
}

func (d *draft) numberOf(name string) int {
	return slices.IndexFunc(d.Volumes, func(v api.Volume) bool { return v.Name == name })
}

func (d *draft) volume() *api.Volume { return &d.Volumes[d.name] }

func (d *draft) second() *api.Volume { return &d.Volumes[d.other] }
