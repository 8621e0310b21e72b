package syntax

import "cistern/api"

// node is what the parser makes of what it reads: one of the kinds below.
type node interface {
	// top tells what is asked of a node while what stands around it is read.
	top() head
}

// head is what every node has: the kind and the place that it has in the tree.
type head struct {
	kind int
	at   int
}

func (h head) top() head { return h }

type (
	// leaf is a number, a word or a text.
	leaf struct {
		head
		text   string
		number int
	}
	// couple is what stands ahead of an operator and behind it.
	couple struct {
		head
		first  node
		second node
	}
	// group is all else that has kids alone: a plan, a block, a name with its parts, what has its operands behind it.
	group struct {
		head
		kids []node
	}
	// clause is one of a plan.
	clause struct {
		group
		word    string // that it binds
		isThick bool
	}
)

func groupOf(kind int, at int, kids ...node) group { return group{head{kind, at}, kids} }

func clauseOf(kind int, at int, kids ...node) clause {
	return clause{group: groupOf(kind, at, kids...)}
}

// treeOf makes the tree that is handed out.
func treeOf(n node) api.Node {
	tree := api.Node{Kind: n.top().kind, At: n.top().at}
	switch n := n.(type) {
	case leaf:
		tree.Text, tree.Number = n.text, n.number
	case couple:
		tree.Kids = treesOf(n.first, n.second)
	case group:
		tree.Kids = treesOf(n.kids...)
	case clause:
		tree.Text, tree.Kids = n.word, treesOf(n.kids...)
		if n.isThick {
			tree.Number = 1
		}
	}
	return tree
}

func treesOf(ns ...node) []api.Node {
	trees := make([]api.Node, len(ns))
	for i, n := range ns {
		trees[i] = treeOf(n)
	}
	return trees
}
