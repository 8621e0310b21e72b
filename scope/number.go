package scope

import "cistern/api"

// number is an expression: one of the kinds below.
type number interface {
	// place is where an error of its own lies.
	place() int
}

// head is what every number has.
type head struct {
	at int
}

func (h head) place() int { return h.at }

type (
	// constant is a number that is written out.
	constant struct {
		head
		value int
	}
	// word stands for the number that is bound to it.
	word struct {
		head
		text string
	}
	// size is that of a volume.
	size struct {
		head
		name *name
	}
	// free is how many pool blocks are.
	free struct {
		head
	}
	// couple is what an operator makes of two: the kind is the node's.
	couple struct {
		head
		kind   int
		first  number
		second number
	}
	// least and most are those of their numbers, of which there is one at least.
	least struct {
		head
		of []number
	}
	most struct {
		head
		of []number
	}
)

// numberOf makes the number of a node that is an expression's.
func numberOf(n api.Node) number {
	at := head{n.At}
	switch n.Kind {
	case api.NodeNumber:
		return constant{at, n.Number}
	case api.NodeWord:
		return word{at, n.Text}
	case api.NodeSize:
		return size{at, nameOf(n.Kids[0])}
	case api.NodeFree:
		return free{at}
	case api.NodeMin:
		return least{at, numbersOf(n.Kids)}
	case api.NodeMax:
		return most{at, numbersOf(n.Kids)}
	}
	return couple{at, n.Kind, numberOf(n.Kids[0]), numberOf(n.Kids[1])}
}

func numbersOf(ns []api.Node) []number {
	var numbers []number
	for _, n := range ns {
		numbers = append(numbers, numberOf(n))
	}
	return numbers
}
