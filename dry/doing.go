package dry

import (
	"slices"
	"strings"

	"cistern/api"
)

func (d *draft) create() { d.add(api.Volume{Size: d.To, Kind: api.KindVolume}) }

func (d *draft) snap() { d.branch(api.KindSnap) }

func (d *draft) clone() { d.branch(api.KindVolume) }

// branch makes a volume that begins as Other, with a list of ranges of its own.
func (d *draft) branch(kind int) {
	from := d.second()
	d.add(api.Volume{Size: from.Size, Origin: from.ID, Kind: kind, Mapped: slices.Clone(from.Mapped)})
}

// add makes a volume of the name, with the number that is next.
func (d *draft) add(v api.Volume) {
	v.Name, v.ID = d.Name, d.Next
	d.Next++
	d.lay(v)
}

// lay puts a volume to the place that its name has among the others.
func (d *draft) lay(v api.Volume) {
	byName := func(x api.Volume, name string) int { return strings.Compare(x.Name, name) }
	at, _ := slices.BinarySearchFunc(d.Volumes, v.Name, byName)
	d.Volumes = slices.Insert(d.Volumes, at, v)
}

func (d *draft) resize() {
	v := d.volume()
	v.Size = d.To
	v.Mapped = cut(v.Mapped, api.Range{From: d.To, To: api.MaxSize})
}

func (d *draft) rename() {
	v := *d.volume()
	d.remove()
	v.Name = d.Other
	d.lay(v)
}

func (d *draft) remove() { d.Volumes = slices.Delete(d.Volumes, d.name, d.name+1) }

// restore is nothing of a name to itself: what it gives the volume is what it has.
func (d *draft) restore() {
	v, from := d.volume(), d.second()
	v.Size, v.Mapped = from.Size, slices.Clone(from.Mapped)
}

func (d *draft) write() {
	v := d.volume()
	v.Mapped = join(v.Mapped, api.Range{From: d.From, To: d.From + 1})
}

func (d *draft) discard() {
	v := d.volume()
	v.Mapped = cut(v.Mapped, api.Range{From: d.From, To: d.To})
}

func (d *draft) fill() {
	v := d.volume()
	v.Mapped = join(v.Mapped, api.Range{From: d.From, To: d.To})
}

func (d *draft) extend() { d.Capacity = d.To }
