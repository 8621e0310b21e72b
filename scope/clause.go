package scope

import "cistern/api"

// clause is one of a plan or a block, all that stands in it made ready to be reckoned in each round: one of the kinds below.
type clause interface {
	isClause()
}

// step is what every clause has.
type step struct{}

func (step) isClause() {}

type (
	let struct {
		step
		word   string
		number number
	}
	repeat struct {
		step
		at    int
		word  string
		from  number
		to    number
		block []clause
	}
	when struct {
		step
		condition condition
		block     []clause
		other     []clause
	}
	// listed is one that comes to a clause of the list: what it has of the three is reckoned in their order, which is the kids' too.
	listed struct {
		step
		at      int
		kind    int
		name    *name
		number  number
		other   *name
		isThick bool
	}
)

// clausesOf makes the clauses of a plan or a block.
func clausesOf(n api.Node) []clause {
	var clauses []clause
	for _, kid := range n.Kids {
		clauses = append(clauses, clauseOf(kid))
	}
	return clauses
}

func clauseOf(n api.Node) clause {
	switch n.Kind {
	case api.NodeLet:
		return let{word: n.Text, number: numberOf(n.Kids[0])}
	case api.NodeRepeat:
		return repeat{at: n.At, word: n.Text, from: numberOf(n.Kids[0]), to: numberOf(n.Kids[1]), block: clausesOf(n.Kids[2])}
	case api.NodeWhen:
		made := when{condition: conditionOf(n.Kids[0]), block: clausesOf(n.Kids[1])}
		if len(n.Kids) > 2 {
			made.other = clausesOf(n.Kids[2])
		}
		return made
	}
	return listedOf(n)
}

func listedOf(n api.Node) listed {
	made := listed{at: n.At}
	switch n.Kind {
	case api.NodeVolume:
		made.kind, made.isThick = api.ClauseVolume, n.Number == 1
		made.name, made.number = nameOf(n.Kids[0]), numberOf(n.Kids[1])
		if len(n.Kids) > 2 {
			made.other = nameOf(n.Kids[2])
		}
	case api.NodeSnap:
		made.kind, made.other = api.ClauseSnap, nameOf(n.Kids[0])
	case api.NodeKeep:
		made.kind, made.number, made.other = api.ClauseKeep, numberOf(n.Kids[0]), nameOf(n.Kids[1])
	case api.NodeAbsent:
		made.kind, made.name = api.ClauseAbsent, nameOf(n.Kids[0])
	case api.NodeRename:
		made.kind, made.name, made.other = api.ClauseRename, nameOf(n.Kids[0]), nameOf(n.Kids[1])
	case api.NodeExact:
		made.kind = api.ClauseExact
	}
	return made
}
