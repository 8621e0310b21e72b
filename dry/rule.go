package dry

import (
	"slices"

	"cistern/api"
)

// rule is what holds for operations of a kind.
type rule struct {
	looks []func(*draft) api.Errno // what is looked at, in the order of the errors
	do    func(*draft)
}

// rulesOfKinds gives the rule of each kind, and none for 0, which is no kind.
func rulesOfKinds() []rule {
	type looks = []func(*draft) api.Errno
	ofBranch := looks{(*draft).otherIsThere, (*draft).nameIsFree, (*draft).otherIsWhole, (*draft).volumesHaveRoom}
	ofRange := looks{(*draft).nameIsThere, (*draft).rangeIsWithin, (*draft).nameIsWhole}
	ofFill := looks{(*draft).nameIsThere, (*draft).rangeIsWithin, (*draft).rangeIsShort, (*draft).nameIsWhole}
	ofTwo := looks{(*draft).nameIsThere, (*draft).otherIsThere, (*draft).nameIsWhole, (*draft).otherIsWhole}
	return []rule{
		api.OpCreate:  {looks{(*draft).nameIsFree, (*draft).sizeMayBe, (*draft).volumesHaveRoom}, (*draft).create},
		api.OpSnap:    {ofBranch, (*draft).snap},
		api.OpClone:   {ofBranch, (*draft).clone},
		api.OpResize:  {looks{(*draft).nameIsThere, (*draft).sizeMayBe, (*draft).nameIsWhole}, (*draft).resize},
		api.OpRename:  {looks{(*draft).nameIsThere, (*draft).otherIsFree, (*draft).nameIsWhole}, (*draft).rename},
		api.OpDelete:  {looks{(*draft).nameIsThere, (*draft).nameHasNoChildren}, (*draft).remove},
		api.OpRestore: {ofTwo, (*draft).restore},
		api.OpWrite:   {looks{(*draft).nameIsThere, (*draft).fromIsWithin, (*draft).nameIsWhole}, (*draft).write},
		api.OpDiscard: {ofRange, (*draft).discard},
		api.OpFill:    {ofFill, (*draft).fill},
		api.OpExtend:  {looks{(*draft).capacityMayBe}, (*draft).extend},
	}
}

func (d *draft) nameIsThere() api.Errno { return unless(d.name >= 0, api.ErrActUnknown) }

func (d *draft) otherIsThere() api.Errno { return unless(d.other >= 0, api.ErrActUnknown) }

func (d *draft) nameIsFree() api.Errno { return unless(d.name < 0, api.ErrActTaken) }

func (d *draft) otherIsFree() api.Errno { return unless(d.other < 0, api.ErrActTaken) }

func (d *draft) sizeMayBe() api.Errno {
	return unless(d.To >= 1 && d.To <= api.MaxSize, api.ErrActSize)
}

func (d *draft) capacityMayBe() api.Errno {
	return unless(d.To > d.Capacity && d.To <= api.MaxCapacity, api.ErrActSize)
}

func (d *draft) fromIsWithin() api.Errno {
	return unless(d.From >= 0 && d.From < d.volume().Size, api.ErrActRange)
}

func (d *draft) rangeIsWithin() api.Errno {
	return unless(d.From >= 0 && d.To <= d.volume().Size && d.From <= d.To, api.ErrActRange)
}

// rangeIsShort is asked of a range that is within the volume.
func (d *draft) rangeIsShort() api.Errno {
	return unless(d.To-d.From <= api.MaxFill, api.ErrActRange)
}

func (d *draft) nameIsWhole() api.Errno { return unless(!d.volume().Partial, api.ErrActPartial) }

func (d *draft) otherIsWhole() api.Errno { return unless(!d.second().Partial, api.ErrActPartial) }

func (d *draft) nameHasNoChildren() api.Errno {
	id := d.volume().ID
	isChild := func(v api.Volume) bool { return v.Origin == id }
	return unless(!slices.ContainsFunc(d.Volumes, isChild), api.ErrActChildren)
}

func (d *draft) volumesHaveRoom() api.Errno {
	if len(d.Volumes) >= api.MaxVolumes {
		return api.ErrCatalogFull
	}
	return unless(d.Next <= api.MaxID, api.ErrCatalogIDs)
}

// unless gives the error, unless what is asked holds.
func unless(holds bool, e api.Errno) api.Errno {
	if holds {
		return api.OK
	}
	return e
}
