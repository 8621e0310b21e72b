package scope

import "cistern/api"

// condition is what holds or not: one of the kinds below. It has no error of its own, and so no place.
type condition interface {
	isCondition()
}

// claim is what every condition has.
type claim struct{}

func (claim) isCondition() {}

type (
	less struct {
		claim
		first  number
		second number
	}
	equal struct {
		claim
		first  number
		second number
	}
	exists struct {
		claim
		name *name
	}
	not struct {
		claim
		of condition
	}
	both struct {
		claim
		first  condition
		second condition
	}
	either struct {
		claim
		first  condition
		second condition
	}
)

// conditionOf makes the condition of a node that is one's.
func conditionOf(n api.Node) condition {
	switch n.Kind {
	case api.NodeLess:
		return less{first: numberOf(n.Kids[0]), second: numberOf(n.Kids[1])}
	case api.NodeEqual:
		return equal{first: numberOf(n.Kids[0]), second: numberOf(n.Kids[1])}
	case api.NodeExists:
		return exists{name: nameOf(n.Kids[0])}
	case api.NodeNot:
		return not{of: conditionOf(n.Kids[0])}
	case api.NodeAnd:
		return both{first: conditionOf(n.Kids[0]), second: conditionOf(n.Kids[1])}
	}
	return either{first: conditionOf(n.Kids[0]), second: conditionOf(n.Kids[1])}
}
