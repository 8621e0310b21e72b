package syntax

import (
	"strings"

	"cistern/api"
)

// What a number in a quoted name stands between.
const (
	opening = "${"
	closing = "}"
)

func (p *parser) name() node {
	if p.isAt(api.TokenName) {
		t := p.take()
		return groupOf(api.NodeName, t.At, p.parts(t)...)
	}
	t := p.word()
	return groupOf(api.NodeName, t.At, textOf(t.Text, t.At))
}

func textOf(text string, at int) node { return leaf{head: head{api.NodeText, at}, text: text} }

// parts reads what a quoted name is made of.
func (p *parser) parts(t api.Token) []node {
	var parts []node
	rest, at := t.Text, t.At+len(`"`)
	for rest != "" {
		run, behind, hasNumber := strings.Cut(rest, opening)
		if run != "" {
			parts = append(parts, textOf(run, at))
		}
		if !hasNumber {
			break
		}
		at += len(run) + len(opening)
		number, behind, _ := strings.Cut(behind, closing)
		parts = append(parts, p.within(number, at))
		rest, at = behind, at+len(number)+len(closing)
	}
	return parts
}

// within reads a number that stands in a quoted name, with nothing behind it.
func (p *parser) within(text string, at int) node {
	inner := &parser{operators: p.operators}
	inner.begin([]byte(text), at)
	n := inner.number()
	if !inner.isAtEnd() {
		panic(inner.fault())
	}
	return n
}
