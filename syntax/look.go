package syntax

import "cistern/api"

// look goes through a tree down to the last depth that may be.
type look struct {
	isDeep bool // whether something lies below that
}

// place is where a node stands in a tree.
type place struct {
	role     role
	depth    int
	isWithin bool // whether it lies within a number of a name, where no quotes can stand
}

// mayBe tells whether a node and all below it is as it may be.
func (l *look) mayBe(n api.Node, at place) bool {
	if at.depth > api.MaxDepth {
		l.isDeep = true
		return true
	}
	k := at.kidsOf(n.Kind)
	if !at.role.takes(n) || !textMayBe(n) || !numberMayBe(n) || !k.mayBe(len(n.Kids)) {
		return false
	}
	if at.depth < api.MaxDepth && !partsMayBe(n) {
		return false
	}
	isWithin := at.isWithin || n.Kind == api.NodeName
	for i, kid := range n.Kids {
		if !l.mayBe(kid, place{role: k.role(i), depth: at.depth + 1, isWithin: isWithin}) {
			return false
		}
	}
	return true
}

// kidsOf gives the kids that a node of a kind has in a place.
func (at place) kidsOf(kind int) kids {
	if at.isWithin && kind == api.NodeName {
		return just(wordRole)
	}
	return kidsOf(kind)
}

func textMayBe(n api.Node) bool {
	switch n.Kind {
	case api.NodeLet, api.NodeRepeat, api.NodeWord:
		return isWord(n.Text)
	case api.NodeText:
		return isRun(n.Text)
	}
	return n.Text == ""
}

// isRun tells whether a text can stand in a quoted name for itself.
func isRun(text string) bool {
	for _, b := range []byte(text) {
		if b < ' ' || b > '~' || b == '"' || b == '$' || b == '{' || b == '}' {
			return false
		}
	}
	return text != ""
}

func numberMayBe(n api.Node) bool {
	switch n.Kind {
	case api.NodeVolume:
		return n.Number == 0 || n.Number == 1
	case api.NodeNumber:
		return n.Number >= 0 && n.Number <= api.MaxNumber
	}
	return n.Number == 0
}

// partsMayBe tells whether no two texts stand beside one another: they would be read as one.
func partsMayBe(n api.Node) bool {
	for i := 1; i < len(n.Kids); i++ {
		if n.Kids[i-1].Kind == api.NodeText && n.Kids[i].Kind == api.NodeText {
			return false
		}
	}
	return true
}

// askDepth throws the place of the first node that lies too deep.
func askDepth(n api.Node, depth int) {
	if depth > api.MaxDepth {
		panic(fault{n.At, api.ErrSyntaxDeep})
	}
	for _, kid := range n.Kids {
		askDepth(kid, depth+1)
	}
}
