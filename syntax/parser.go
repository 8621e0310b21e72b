package syntax

import (
	"cistern/api"
	"cistern/lex"
)

// parser reads the tokens of a text, one behind the other.
type parser struct {
	tokens    []api.Token      // that are not read yet
	end       int              // the place behind the text
	operators []map[string]int // of each rule: made once, since they are asked at every token
}

// fault is what is wrong with a text, and where: thrown where it is met, and caught in Parse.
type fault struct {
	at int
	e  api.Errno
}

// parserOf gives the parser of a plan's text.
func parserOf(text []byte) *parser {
	p := &parser{}
	for r := orRule; r < atomRule; r++ {
		p.operators = append(p.operators, operators(r))
	}
	p.begin(text, 0)
	return p
}

// begin goes to the beginning of a text that stands in the plan's from a place on.
func (p *parser) begin(text []byte, from int) {
	tokens, at, e := lex.Tokens(text)
	if e != api.OK {
		panic(fault{from + at, e})
	}
	for i := range tokens {
		tokens[i].At += from
	}
	p.tokens, p.end = tokens, from+len(text)
}

func (p *parser) isAtEnd() bool { return len(p.tokens) == 0 }

// fault gives what is wrong where the next token cannot stand.
func (p *parser) fault() fault {
	if p.isAtEnd() {
		return fault{p.end, api.ErrSyntaxEnd}
	}
	return fault{p.tokens[0].At, api.ErrSyntaxToken}
}

// take takes the next token, whatever it is.
func (p *parser) take() api.Token {
	if p.isAtEnd() {
		panic(p.fault())
	}
	t := p.tokens[0]
	p.tokens = p.tokens[1:]
	return t
}

// sign gives the text of the next token, if that is a word or a mark, else "", which is none's.
func (p *parser) sign() string {
	if p.isAt(api.TokenWord) || p.isAt(api.TokenMark) {
		return p.tokens[0].Text
	}
	return ""
}

func (p *parser) stands(sign string) bool { return p.sign() == sign }

// skip takes a sign, if it stands here.
func (p *parser) skip(sign string) bool {
	ok := p.stands(sign)
	if ok {
		p.take()
	}
	return ok
}

// want takes a sign that has to stand here, and gives its place.
func (p *parser) want(sign string) int {
	if !p.stands(sign) {
		panic(p.fault())
	}
	return p.take().At
}

// isAt tells whether the next token is of a kind.
func (p *parser) isAt(kind int) bool { return !p.isAtEnd() && p.tokens[0].Kind == kind }

// word takes a WORD that has to stand here.
func (p *parser) word() api.Token {
	if !p.isAt(api.TokenWord) || isReserved(p.tokens[0].Text) {
		panic(p.fault())
	}
	return p.take()
}
