package syntax

import "cistern/api"

// number reads what has to be a number.
func (p *parser) number() node { return p.operand(orRule, numberRole) }

// condition reads what has to be a condition.
func (p *parser) condition() node { return p.operand(orRule, conditionRole) }

// operand reads by a rule what has to be of a sort: a number or a condition.
func (p *parser) operand(r rule, sort role) node {
	n := p.read(r)
	ask(n, sort)
	return n
}

// ask throws the place of an operand that is of the other sort.
func ask(n node, sort role) {
	if roleOf(n.top().kind) != sort {
		panic(fault{n.top().at, api.ErrSyntaxToken})
	}
}

// read reads by a rule, whatever the sort.
func (p *parser) read(r rule) node {
	switch r {
	case notRule:
		return p.not()
	case atomRule:
		return p.atom()
	}
	return p.operated(r)
}

// operated reads by a rule that has operators between its operands. A chain of them leans to the left.
func (p *parser) operated(r rule) node {
	n := p.read(r + 1)
	for {
		kind, ok := p.operators[r][p.sign()]
		if !ok {
			return n
		}
		ask(n, r.operands())
		p.take()
		behind := p.operand(r+1, r.operands())
		n = couple{head{kind, n.top().at}, n, behind}
		if !r.isChain() {
			return n
		}
	}
}

func (p *parser) not() node {
	if !p.stands("not") {
		return p.read(compareRule)
	}
	at := p.take().At
	return groupOf(api.NodeNot, at, p.operand(notRule, conditionRole))
}

func (p *parser) atom() node {
	switch p.sign() {
	case "(":
		return p.enclosed()
	case "min":
		return p.call(api.NodeMin, p.numbers)
	case "max":
		return p.call(api.NodeMax, p.numbers)
	case "size":
		return p.call(api.NodeSize, p.oneName)
	case "exists":
		return p.call(api.NodeExists, p.oneName)
	case "free":
		return p.call(api.NodeFree, nothing)
	}
	if p.isAt(api.TokenNumber) {
		t := p.take()
		return leaf{head: head{api.NodeNumber, t.At}, number: t.Number}
	}
	t := p.word()
	return leaf{head: head{api.NodeWord, t.At}, text: t.Text}
}

// enclosed reads what stands in parentheses, which are no part of it.
func (p *parser) enclosed() node {
	p.want("(")
	n := p.read(orRule)
	p.want(")")
	return n
}

// call reads a word with its arguments in parentheses.
func (p *parser) call(kind int, arguments func() []node) node {
	at := p.take().At
	p.want("(")
	kids := arguments()
	p.want(")")
	return groupOf(kind, at, kids...)
}

func (p *parser) numbers() []node {
	all := []node{p.number()}
	for p.skip(",") {
		all = append(all, p.number())
	}
	return all
}

func (p *parser) oneName() []node { return []node{p.name()} }

func nothing() []node { return nil }
