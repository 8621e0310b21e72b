package scope

import (
	"cistern/api"
	"cistern/syntax"
)

// look goes through a plan to see whether its names may be and its words are bound; which numbers they have is not asked.
type look struct {
	bound bindings
}

func lookAt(plan api.Node) {
	if e := syntax.Valid(plan); e != api.OK {
		panic(fault{plan.At, e})
	}
	l := look{bindings{}}
	l.node(plan)
}

func (l look) node(n api.Node) {
	switch n.Kind {
	case api.NodePlan, api.NodeBlock:
		l.block(n.Kids)
	case api.NodeLet:
		l.nodes(n.Kids)
		l.bind(n)
	case api.NodeRepeat:
		l.repeat(n)
	case api.NodeWord:
		if !l.bound.has(n.Text) {
			panic(fault{n.At, api.ErrScopeUnknown})
		}
	case api.NodeName:
		l.name(n)
	default:
		l.nodes(n.Kids)
	}
}

func (l look) nodes(ns []api.Node) {
	for _, n := range ns {
		l.node(n)
	}
}

// block looks at a block's clauses, and takes out of the map at its end what they have bound.
func (l look) block(clauses []api.Node) {
	l.nodes(clauses)
	for _, c := range clauses {
		if c.Kind == api.NodeLet {
			delete(l.bound, c.Text)
		}
	}
}

func (l look) repeat(n api.Node) {
	from, to, block := n.Kids[0], n.Kids[1], n.Kids[2]
	l.node(from)
	l.node(to)
	l.bind(n)
	l.node(block)
	delete(l.bound, n.Text)
}

func (l look) bind(n api.Node) {
	if l.bound.has(n.Text) {
		panic(fault{n.At, api.ErrScopeTwice})
	}
	l.bound[n.Text] = 0
}

// name asks of a name that no number is part of whether it may be: of others that hangs on their numbers.
func (l look) name(n api.Node) {
	text := ""
	for _, part := range n.Kids {
		if part.Kind != api.NodeText {
			l.nodes(n.Kids)
			return
		}
		text += part.Text
	}
	askName(text, n.At)
}
