package scope

import (
	"cistern/api"
	"cistern/catalog"
)

// name is what a name is made of.
type name struct {
	at    int
	parts []part
}

// part is a text, or a number that is written in its place.
type part struct {
	text   string
	number number // nil: there is none
}

func nameOf(n api.Node) *name {
	made := &name{at: n.At}
	for _, kid := range n.Kids {
		if kid.Kind == api.NodeText {
			made.parts = append(made.parts, part{text: kid.Text})
		} else {
			made.parts = append(made.parts, part{number: numberOf(kid)})
		}
	}
	return made
}

// askName throws the place of a name that is no plan's.
func askName(text string, at int) {
	if !catalog.IsName(text) || !isLetter(text[0]) {
		panic(fault{at, api.ErrScopeName})
	}
}

func isLetter(b byte) bool { return b >= 'a' && b <= 'z' }
