package syntax_test

import (
	"fmt"
	"slices"
	"strings"

	"cistern/api"
)

// spelling is the tokens of a tree, whatever it is, with parentheses around every operand: pairs are their places.
type spelling struct {
	words []string
	pairs [][2]int
}

func (s *spelling) add(words ...string) { s.words = append(s.words, words...) }

// row spells words and, for a number, the kid of that place.
func (s *spelling) row(n api.Node, pieces ...any) {
	for _, piece := range pieces {
		switch piece := piece.(type) {
		case string:
			s.add(piece)
		case int:
			s.kid(n, piece)
		}
	}
}

func (s *spelling) kid(n api.Node, at int) {
	if at < len(n.Kids) {
		s.node(n.Kids[at])
	}
}

func (s *spelling) operand(n api.Node, at int) {
	from := len(s.words)
	s.add("(")
	s.kid(n, at)
	s.pairs = append(s.pairs, [2]int{from, len(s.words)})
	s.add(")")
}

// operatorTexts are the operators by the kinds that they make.
var operatorTexts = map[int]string{22: "+", 23: "-", 24: "*", 25: "/", 26: "%", 31: "<", 32: "=", 35: "and", 36: "or"}

func (s *spelling) node(n api.Node) {
	switch n.Kind {
	case 1, 2, 3, 4, 5, 6, 7, 8, 9, 10, 11:
		s.clause(n)
	case 12:
		s.add(spelledName(n))
	case 20:
		s.add(fmt.Sprint(n.Number))
	case 21:
		s.add(n.Text)
	case 27, 28:
		s.row(n, map[int]string{27: "min", 28: "max"}[n.Kind], "(", 0)
		for i := 1; i < len(n.Kids); i++ {
			s.row(n, ",", i)
		}
		s.add(")")
	case 29, 33:
		s.row(n, map[int]string{29: "size", 33: "exists"}[n.Kind], "(", 0, ")")
	case 30:
		s.add("free", "(", ")")
	case 34:
		s.add("not")
		s.operand(n, 0)
	case 22, 23, 24, 25, 26, 31, 32, 35, 36:
		s.operand(n, 0)
		s.add(operatorTexts[n.Kind])
		s.operand(n, 1)
	default:
		s.add("?")
	}
}

func (s *spelling) clause(n api.Node) {
	switch n.Kind {
	case 1:
		for i := range n.Kids {
			s.kid(n, i)
		}
	case 2:
		s.row(n, "let", n.Text, "=", 0, ";")
	case 3:
		s.row(n, "volume", 0)
		if len(n.Kids) > 2 {
			s.row(n, "from", 2)
		}
		s.row(n, "size", 1)
		if n.Number == 1 {
			s.add("thick")
		}
		s.add(";")
	case 4:
		s.row(n, "snapshot", "of", 0, ";")
	case 5:
		s.row(n, "keep", 0, "of", 1, ";")
	case 6:
		s.row(n, "absent", 0, ";")
	case 7:
		s.row(n, "rename", 0, "to", 1, ";")
	case 8:
		s.row(n, "exact", ";")
	case 9:
		s.row(n, "repeat", n.Text, 0, "to", 1, 2)
	case 10:
		s.row(n, "when", 0, 1)
		if len(n.Kids) > 2 {
			s.row(n, "else", 2)
		}
	case 11:
		s.add("{")
		for i := range n.Kids {
			s.kid(n, i)
		}
		s.add("}")
	}
}

// spelledName gives a name as a WORD, if it is read as the same name so, else in quotes.
func spelledName(n api.Node) string {
	if len(n.Kids) == 1 {
		bare := n.Kids[0].Text
		if again, _, e := modelledTree("absent " + bare + " ;"); e == api.OK && meant(again) == meant(plan(absent(n))) {
			return bare
		}
	}
	out := ""
	for _, part := range n.Kids {
		if part.Kind == 13 {
			out += part.Text
		} else {
			words := least(lets(part))
			out += "${" + strings.Join(words[3:len(words)-1], " ") + "}"
		}
	}
	return `"` + out + `"`
}

// spelled gives the tokens of a tree with all parentheses.
func spelled(n api.Node) string {
	s := &spelling{}
	s.node(n)
	return strings.Join(s.words, " ")
}

// least gives the tokens of a tree with those parentheses alone without which it would be read otherwise.
func least(n api.Node) []string {
	s := &spelling{}
	s.node(n)
	want := meant(n)
	for _, pair := range s.pairs {
		words := slices.Clone(s.words)
		words[pair[0]], words[pair[1]] = "", ""
		if again, _, e := modelledTree(strings.Join(words, " ")); e == api.OK && meant(again) == want {
			s.words = words
		}
	}
	return slices.DeleteFunc(s.words, func(word string) bool { return word == "" })
}

// leastText gives what Print should write of a tree that may be.
func leastText(n api.Node) string { return strings.Join(least(n), " ") }

// standIns gives for each kind nodes that may be its kids, in order, the last one any number of times.
func standIns(kind int, isWithin bool) []api.Node {
	a, one := named("a"), number(1)
	switch kind {
	case 1, 11:
		return []api.Node{node(8)}
	case 3:
		return []api.Node{a, one, a}
	case 4, 6, 29, 33, 7:
		return []api.Node{a}
	case 5:
		return []api.Node{one, a}
	case 9:
		return []api.Node{one, one, block()}
	case 10:
		return []api.Node{less(), block()}
	case 12:
		if isWithin {
			return []api.Node{text("a")}
		}
		return []api.Node{one}
	case 34, 35, 36:
		return []api.Node{less()}
	}
	return []api.Node{one}
}

// cut gives a tree in which all that lies below the last depth is as it may be.
func cut(n api.Node, depth int, isWithin bool) api.Node {
	kids := slices.Clone(n.Kids)
	for i := range kids {
		if depth == mostDepth {
			all := standIns(n.Kind, isWithin)
			kids[i] = all[min(i, len(all)-1)]
		} else {
			kids[i] = cut(kids[i], depth+1, isWithin || n.Kind == 12)
		}
	}
	n.Kids = kids
	return n
}

// modelledValid gives what Valid should answer: a tree may be if there is a text that is read as it.
func modelledValid(n api.Node) api.Errno {
	known := cut(n, 1, false)
	if again, _, e := modelledTree(spelled(known)); e != api.OK || meant(again) != meant(known) {
		return api.ErrSyntaxTree
	}
	if len(levels(n)) > mostDepth {
		return api.ErrSyntaxDeep
	}
	return api.OK
}
