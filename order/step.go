package order

import (
	"cistern/api"
	"cistern/op"
)

// step is an operation of a kind that has a place in the order.
type step interface{ operation() api.Op }

type plain struct{ api.Op }

func (p plain) operation() api.Op { return p.Op }

// The kinds of steps. A rename of a circle becomes two: aside goes to a name of its own, back comes from it.
type (
	rename struct{ plain }
	aside  struct{ plain }
	back   struct{ plain }
	snap   struct{ plain }
	remove struct{ plain }
	create struct{ plain }
	clone  struct{ plain }
	resize struct{ plain }
	fill   struct{ plain }
)

func stepsOf(ops []api.Op) ([]step, api.Errno) {
	steps := make([]step, len(ops))
	for i, o := range ops {
		if steps[i] = stepOf(o); steps[i] == nil {
			return nil, api.ErrOrderStep
		}
	}
	return steps, api.OK
}

// stepOf gives nil for what has no place in the order.
func stepOf(o api.Op) step {
	if op.Check(o) != api.OK {
		return nil
	}
	// None of these kinds has data; but an empty list could have spare room, which is not to be handed out.
	o.Data = nil
	p := plain{o}
	switch o.Kind {
	case api.OpRename:
		return rename{p}
	case api.OpSnap:
		return snap{p}
	case api.OpDelete:
		return remove{p}
	case api.OpCreate:
		return create{p}
	case api.OpClone:
		return clone{p}
	case api.OpResize:
		return resize{p}
	case api.OpFill:
		return fill{p}
	}
	return nil
}
