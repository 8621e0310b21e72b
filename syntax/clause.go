package syntax

import "cistern/api"

func (p *parser) plan() node {
	var clauses []node
	for !p.isAtEnd() {
		clauses = append(clauses, p.clause())
	}
	return groupOf(api.NodePlan, 0, clauses...)
}

func (p *parser) block() node {
	at := p.want("{")
	var clauses []node
	for !p.skip("}") {
		clauses = append(clauses, p.clause())
	}
	return groupOf(api.NodeBlock, at, clauses...)
}

func (p *parser) clause() node {
	read := begun(p.sign())
	if read == nil {
		panic(p.fault())
	}
	return read(p, p.take().At)
}

// begun gives by a clause's first word what reads all behind it, nil: no clause begins so.
func begun(word string) func(p *parser, at int) clause {
	switch word {
	case "let":
		return (*parser).let
	case "volume":
		return (*parser).volume
	case "snapshot":
		return (*parser).snapshot
	case "keep":
		return (*parser).keep
	case "absent":
		return (*parser).absent
	case "rename":
		return (*parser).rename
	case "exact":
		return (*parser).exact
	case "repeat":
		return (*parser).repeat
	case "when":
		return (*parser).when
	}
	return nil
}

func (p *parser) let(at int) clause {
	word := p.word().Text
	p.want("=")
	c := clauseOf(api.NodeLet, at, p.number())
	c.word = word
	p.want(";")
	return c
}

func (p *parser) volume(at int) clause {
	name := p.name()
	var source []node
	if p.skip("from") {
		source = append(source, p.name())
	}
	p.want("size")
	c := clauseOf(api.NodeVolume, at, name, p.number())
	c.kids = append(c.kids, source...)
	c.isThick = p.skip("thick")
	p.want(";")
	return c
}

func (p *parser) snapshot(at int) clause {
	p.want("of")
	c := clauseOf(api.NodeSnap, at, p.name())
	p.want(";")
	return c
}

func (p *parser) keep(at int) clause {
	count := p.number()
	p.want("of")
	c := clauseOf(api.NodeKeep, at, count, p.name())
	p.want(";")
	return c
}

func (p *parser) absent(at int) clause {
	c := clauseOf(api.NodeAbsent, at, p.name())
	p.want(";")
	return c
}

func (p *parser) rename(at int) clause {
	old := p.name()
	p.want("to")
	c := clauseOf(api.NodeRename, at, old, p.name())
	p.want(";")
	return c
}

func (p *parser) exact(at int) clause {
	p.want(";")
	return clauseOf(api.NodeExact, at)
}

func (p *parser) repeat(at int) clause {
	word := p.word().Text
	from := p.number()
	p.want("to")
	to := p.number()
	c := clauseOf(api.NodeRepeat, at, from, to, p.block())
	c.word = word
	return c
}

func (p *parser) when(at int) clause {
	condition := p.condition()
	c := clauseOf(api.NodeWhen, at, condition, p.block())
	if p.skip("else") {
		c.kids = append(c.kids, p.block())
	}
	return c
}
