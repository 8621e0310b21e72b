package act

import (
	"cistern/api"
	"cistern/catalog"
)

// rule is what holds for operations of a kind.
type rule struct {
	uses  uses
	looks []func(deed) api.Errno // what is looked at, in the order of the errors
	cost  func(deed) (int, api.Errno)
	do    func(deed) api.Errno
}

// uses says which fields a kind uses.
type uses struct {
	name  bool
	other bool
	from  bool
	to    bool
	data  bool
}

// ruleOf gives the rule of a kind, false: there is none of that kind.
func ruleOf(kind int) (rule, bool) {
	switch kind {
	case api.OpCreate, api.OpSnap, api.OpClone:
		return ruleOfNew(kind), true
	case api.OpWrite, api.OpDiscard, api.OpFill:
		return ruleOfBlocks(kind), true
	case api.OpResize:
		return rule{
			uses:  uses{name: true, to: true},
			looks: []func(deed) api.Errno{deed.nameIsThere, deed.sizeMayBe, deed.nameIsWhole},
			cost:  deed.needOfResize,
			do:    deed.resize,
		}, true
	case api.OpRename:
		return rule{
			uses:  uses{name: true, other: true},
			looks: []func(deed) api.Errno{deed.nameIsThere, deed.otherIsFree, deed.nameIsWhole},
			cost:  deed.noNeed,
			do:    deed.rename,
		}, true
	case api.OpDelete:
		return rule{
			uses:  uses{name: true},
			looks: []func(deed) api.Errno{deed.nameIsThere, deed.nameHasNoChildren},
			cost:  deed.noNeed,
			do:    deed.remove,
		}, true
	case api.OpRestore:
		return rule{
			uses:  uses{name: true, other: true},
			looks: []func(deed) api.Errno{deed.nameIsThere, deed.otherIsThere, deed.nameIsWhole, deed.otherIsWhole},
			cost:  deed.noNeed,
			do:    deed.restore,
		}, true
	case api.OpExtend:
		return rule{
			uses:  uses{to: true},
			looks: []func(deed) api.Errno{deed.capacityMayBe, deed.diskHasRoom},
			cost:  deed.noNeed,
			do:    deed.extend,
		}, true
	}
	return rule{}, false
}

// ruleOfNew gives the rule of a kind that makes a volume.
func ruleOfNew(kind int) rule {
	if kind == api.OpCreate {
		return rule{
			uses:  uses{name: true, to: true},
			looks: []func(deed) api.Errno{deed.nameIsFree, deed.sizeMayBe, deed.catalogHasRoom},
			cost:  deed.noNeed,
			do:    deed.create,
		}
	}
	r := rule{
		uses:  uses{name: true, other: true},
		looks: []func(deed) api.Errno{deed.otherIsThere, deed.nameIsFree, deed.otherIsWhole, deed.catalogHasRoom},
		cost:  deed.noNeed,
		do:    deed.clone,
	}
	if kind == api.OpSnap {
		r.do = deed.snap
	}
	return r
}

// ruleOfBlocks gives the rule of a kind that changes what a volume maps, and else nothing.
func ruleOfBlocks(kind int) rule {
	switch kind {
	case api.OpWrite:
		return rule{
			uses:  uses{name: true, from: true, data: true},
			looks: []func(deed) api.Errno{deed.nameIsThere, deed.fromIsWithin, deed.nameIsWhole},
			cost:  deed.needOfWrite,
			do:    deed.write,
		}
	case api.OpDiscard:
		return rule{
			uses:  uses{name: true, from: true, to: true},
			looks: []func(deed) api.Errno{deed.nameIsThere, deed.rangeIsWithin, deed.nameIsWhole},
			cost:  deed.needOfDiscard,
			do:    deed.discard,
		}
	}
	return rule{
		uses:  uses{name: true, from: true, to: true},
		looks: []func(deed) api.Errno{deed.nameIsThere, deed.rangeIsWithin, deed.rangeIsShort, deed.nameIsWhole},
		cost:  deed.needOfFill,
		do:    deed.fill,
	}
}

// ruleFor gives the rule of an operation, unless it is refused whatever pool it is done over.
func ruleFor(o api.Op) (rule, api.Errno) {
	r, ok := ruleOf(o.Kind)
	switch {
	case !ok:
		return rule{}, api.ErrActKind
	case !r.uses.isForm(o):
		return rule{}, api.ErrActForm
	case r.uses.name && !catalog.IsName(o.Name), r.uses.other && !catalog.IsName(o.Other):
		return rule{}, api.ErrActName
	case r.uses.data && len(o.Data) != api.BlockSize:
		return rule{}, api.ErrActData
	}
	return r, api.OK
}

// isForm tells whether all other fields of an operation are zero.
func (u uses) isForm(o api.Op) bool {
	return (u.name || o.Name == "") &&
		(u.other || o.Other == "") &&
		(u.from || o.From == 0) &&
		(u.to || o.To == 0) &&
		(u.data || len(o.Data) == 0)
}
