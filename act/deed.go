package act

import (
	"slices"

	"cistern/api"
	"cistern/pool"
	"cistern/txn"
)

// deed is an operation, with the pool over which and the transaction in which it is done, and what it finds there.
type deed struct {
	*pool.Pool
	*txn.Txn
	api.Op
	volumes    []api.Entry
	volume     api.Entry // the one that Name names; its ID is 0, if there is none
	second     api.Entry // the one that Other names, likewise
	isBuilding bool      // of a volume that is made by several operations
}

// look finds the volumes that an operation names.
func look(p *pool.Pool, t *txn.Txn, o api.Op) (deed, api.Errno) {
	volumes, e := p.Catalog().List(t)
	if e != api.OK {
		return deed{}, e
	}
	d := deed{Pool: p, Txn: t, Op: o, volumes: volumes}
	d.volume, d.second = d.named(o.Name), d.named(o.Other)
	return d, api.OK
}

func (d deed) named(name string) api.Entry {
	i := slices.IndexFunc(d.volumes, func(v api.Entry) bool { return v.Name == name })
	if i < 0 {
		return api.Entry{}
	}
	return d.volumes[i]
}

// inTurn looks at one thing behind the other, up to the first one that is against the operation.
func (d deed) inTurn(looks ...func(deed) api.Errno) api.Errno {
	for _, look := range looks {
		if e := look(d); e != api.OK {
			return e
		}
	}
	return api.OK
}

func (d deed) nameIsThere() api.Errno { return unless(d.volume.ID != 0, api.ErrActUnknown) }

func (d deed) otherIsThere() api.Errno { return unless(d.second.ID != 0, api.ErrActUnknown) }

func (d deed) nameIsFree() api.Errno { return unless(d.volume.ID == 0, api.ErrActTaken) }

func (d deed) otherIsFree() api.Errno { return unless(d.second.ID == 0, api.ErrActTaken) }

func (d deed) sizeMayBe() api.Errno {
	return unless(d.To >= 1 && d.To <= api.MaxSize, api.ErrActSize)
}

func (d deed) capacityMayBe() api.Errno {
	capacity, e := d.Space().Size(d.Txn)
	if e != api.OK {
		return e
	}
	return unless(d.To > capacity && d.To <= api.MaxCapacity, api.ErrActSize)
}

func (d deed) fromIsWithin() api.Errno {
	return unless(d.From >= 0 && d.From < d.volume.Size, api.ErrActRange)
}

func (d deed) rangeIsWithin() api.Errno {
	return unless(d.From >= 0 && d.To <= d.volume.Size && d.From <= d.To, api.ErrActRange)
}

// rangeIsShort is asked of a range that is within the volume.
func (d deed) rangeIsShort() api.Errno {
	return unless(d.To-d.From <= api.MaxFill, api.ErrActRange)
}

func (d deed) nameIsWhole() api.Errno {
	return unless(!d.volume.Partial || d.isBuilding, api.ErrActPartial)
}

func (d deed) otherIsWhole() api.Errno { return unless(!d.second.Partial, api.ErrActPartial) }

func (d deed) nameHasNoChildren() api.Errno {
	isChild := func(v api.Entry) bool { return v.Origin == d.volume.ID }
	return unless(!slices.ContainsFunc(d.volumes, isChild), api.ErrActChildren)
}

func (d deed) catalogHasRoom() api.Errno {
	if len(d.volumes) >= api.MaxVolumes {
		return api.ErrCatalogFull
	}
	next, e := d.Catalog().Next(d.Txn)
	if e != api.OK {
		return e
	}
	return unless(next <= api.MaxID, api.ErrCatalogIDs)
}

func (d deed) diskHasRoom() api.Errno {
	bound, e := d.Bound()
	if e != api.OK {
		return e
	}
	return unless(d.To <= bound, api.ErrPoolSize)
}

// unless gives the error, unless what is asked holds.
func unless(holds bool, e api.Errno) api.Errno {
	if holds {
		return api.OK
	}
	return e
}
