package syntax

import (
	"strings"

	"cistern/api"
	"cistern/lex"
)

const marks = ";{}(),=<+-*/%"

// writer gathers the tokens of trees that may be.
type writer struct {
	tokens []api.Token
	e      api.Errno // that of the first number in a name that cannot be written
}

// put writes words and marks, and trees, in their order.
func (w *writer) put(pieces ...any) {
	for _, piece := range pieces {
		switch piece := piece.(type) {
		case string:
			w.sign(piece)
		case api.Node:
			w.tree(piece)
		}
	}
}

func (w *writer) sign(text string) {
	kind := api.TokenWord
	if strings.Contains(marks, text) {
		kind = api.TokenMark
	}
	w.token(api.Token{Kind: kind, Text: text})
}

// token adds a token. One more than may be is enough for it to be refused: a tree can have many times as many.
func (w *writer) token(t api.Token) {
	if len(w.tokens) <= api.MaxTokens {
		w.tokens = append(w.tokens, t)
	}
}

func (w *writer) tree(n api.Node) {
	switch roleOf(n.Kind) {
	case clauseRole:
		w.clause(n)
	case blockRole:
		w.put("{")
		w.clauses(n)
		w.put("}")
	case nameRole:
		w.name(n)
	case numberRole, conditionRole:
		w.expression(n)
	}
}

// clauses writes those of a plan or a block.
func (w *writer) clauses(n api.Node) {
	for _, kid := range n.Kids {
		w.put(kid)
	}
}

func (w *writer) clause(n api.Node) {
	switch n.Kind {
	case api.NodeLet:
		w.put("let", n.Text, "=", n.Kids[0], ";")
	case api.NodeVolume:
		w.volume(n)
	case api.NodeSnap:
		w.put("snapshot", "of", n.Kids[0], ";")
	case api.NodeKeep:
		w.put("keep", n.Kids[0], "of", n.Kids[1], ";")
	case api.NodeAbsent:
		w.put("absent", n.Kids[0], ";")
	case api.NodeRename:
		w.put("rename", n.Kids[0], "to", n.Kids[1], ";")
	case api.NodeExact:
		w.put("exact", ";")
	case api.NodeRepeat:
		w.put("repeat", n.Text, n.Kids[0], "to", n.Kids[1], n.Kids[2])
	case api.NodeWhen:
		w.put("when", n.Kids[0], n.Kids[1])
		if len(n.Kids) > 2 {
			w.put("else", n.Kids[2])
		}
	}
}

func (w *writer) volume(n api.Node) {
	w.put("volume", n.Kids[0])
	if len(n.Kids) > 2 {
		w.put("from", n.Kids[2])
	}
	w.put("size", n.Kids[1])
	if n.Number == 1 {
		w.put("thick")
	}
	w.put(";")
}

func (w *writer) expression(n api.Node) {
	if o, ok := operatorOf(n.Kind); ok {
		// A chain leans to the left: only behind an operator its own rule has to stand in parentheses.
		w.operand(n.Kids[0], o.rule)
		w.put(o.text)
		w.operand(n.Kids[1], o.rule+1)
		return
	}
	switch n.Kind {
	case api.NodeNumber:
		w.token(api.Token{Kind: api.TokenNumber, Number: n.Number})
	case api.NodeWord:
		w.put(n.Text)
	case api.NodeMin:
		w.call("min", n)
	case api.NodeMax:
		w.call("max", n)
	case api.NodeSize:
		w.call("size", n)
	case api.NodeFree:
		w.call("free", n)
	case api.NodeExists:
		w.call("exists", n)
	case api.NodeNot:
		w.put("not")
		w.operand(n.Kids[0], notRule)
	}
}

// operand writes an operand where a rule is asked for, with parentheses where its own rule stands ahead of that.
func (w *writer) operand(n api.Node, asked rule) {
	if ruleOf(n.Kind) < asked {
		w.put("(", n, ")")
	} else {
		w.put(n)
	}
}

func (w *writer) call(word string, n api.Node) {
	w.put(word, "(")
	for i, kid := range n.Kids {
		if i > 0 {
			w.put(",")
		}
		w.put(kid)
	}
	w.put(")")
}

func (w *writer) name(n api.Node) {
	if len(n.Kids) == 1 && wordRole.takes(n.Kids[0]) {
		w.put(n.Kids[0].Text)
		return
	}
	var text strings.Builder
	for _, part := range n.Kids {
		if part.Kind == api.NodeText {
			text.WriteString(part.Text)
		} else {
			text.WriteString(opening + w.within(part) + closing)
		}
	}
	w.token(api.Token{Kind: api.TokenName, Text: text.String()})
}

// within gives the text of a number that stands in a quoted name.
func (w *writer) within(n api.Node) string {
	inner := &writer{}
	inner.put(n)
	text, e := lex.Untoken(inner.tokens)
	if w.e == api.OK {
		w.e = e
	}
	return text
}
