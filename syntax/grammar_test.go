package syntax_test

import (
	"fmt"
	"slices"
	"strings"

	"cistern/api"
	"cistern/lex"
)

// grammar is the chapter's, as it stands there. The model below reads texts by it.
const grammar = `
plan    = clause*
clause  = "let" WORD "=" number ";"
        | "volume" name [ "from" name ] "size" number [ "thick" ] ";"
        | "snapshot" "of" name ";"
        | "keep" number "of" name ";"
        | "absent" name ";"
        | "rename" name "to" name ";"
        | "exact" ";"
        | "repeat" WORD number "to" number block
        | "when" condition block [ "else" block ]
block   = "{" clause* "}"
name    = WORD | NAME
or      = and ( "or" and )*
and     = not ( "and" not )*
not     = "not" not | compare
compare = sum [ ( "<" | "=" ) sum ]
sum     = product ( ( "+" | "-" ) product )*
product = atom ( ( "*" | "/" | "%" ) atom )*
atom    = NUMBER | WORD | "min" "(" or ( "," or )* ")" | "max" "(" or ( "," or )* ")"
        | "size" "(" name ")" | "free" "(" ")" | "exists" "(" name ")" | "(" or ")"
number, condition = or
`

// form is a piece of the grammar: what it is, its text (of a literal, a terminal or a rule's name), and its parts.
type form struct {
	what  string // "literal", "terminal", "rule", "row", "choice", "maybe", "many"
	text  string
	parts []form
}

// rules are the grammar's forms by their names.
var rules = readGrammar()

func readGrammar() map[string]form {
	out := map[string]form{}
	joined := strings.ReplaceAll(strings.ReplaceAll(grammar, "\n        |", " |"), "*", " *")
	joined = strings.ReplaceAll(joined, `" *"`, `"*"`)
	for _, line := range strings.Split(strings.TrimSpace(joined), "\n") {
		names, body, _ := strings.Cut(line, " = ")
		words := strings.Fields(body)
		read, rest := readChoice(words)
		if len(rest) > 0 {
			panic("the grammar has " + strings.Join(rest, " "))
		}
		for _, name := range strings.Split(names, ",") {
			out[strings.TrimSpace(name)] = read
		}
	}
	return out
}

func readChoice(words []string) (form, []string) {
	out := form{what: "choice"}
	for {
		row, rest := readRow(words)
		out.parts = append(out.parts, row)
		if len(rest) == 0 || rest[0] != "|" {
			return out, rest
		}
		words = rest[1:]
	}
}

func readRow(words []string) (form, []string) {
	out := form{what: "row"}
	for len(words) > 0 && !slices.Contains([]string{"|", ")", "]"}, words[0]) {
		var part form
		part, words = readPart(words)
		if len(words) > 0 && words[0] == "*" {
			part, words = form{what: "many", parts: []form{part}}, words[1:]
		}
		out.parts = append(out.parts, part)
	}
	return out, words
}

func readPart(words []string) (form, []string) {
	first, rest := words[0], words[1:]
	switch {
	case first == "(":
		inner, rest := readChoice(rest)
		return inner, rest[1:]
	case first == "[":
		inner, rest := readChoice(rest)
		return form{what: "maybe", parts: []form{inner}}, rest[1:]
	case first[0] == '"':
		return form{what: "literal", text: strings.Trim(first, `"`)}, rest
	case strings.ToUpper(first) == first:
		return form{what: "terminal", text: first}, rest
	}
	return form{what: "rule", text: first}, rest
}

// isFirst tells whether a form can begin with a token.
func isFirst(f form, t api.Token) bool {
	switch f.what {
	case "literal":
		return (t.Kind == api.TokenWord || t.Kind == api.TokenMark) && t.Text == f.text
	case "terminal":
		switch f.text {
		case "WORD":
			return t.Kind == api.TokenWord && !slices.Contains(reserved, t.Text)
		case "NAME":
			return t.Kind == api.TokenName
		}
		return t.Kind == api.TokenNumber
	case "rule":
		return isFirst(rules[f.text], t)
	case "row":
		for _, part := range f.parts {
			if isFirst(part, t) {
				return true
			}
			if part.what != "maybe" && part.what != "many" {
				return false
			}
		}
		return false
	}
	return slices.ContainsFunc(f.parts, func(part form) bool { return isFirst(part, t) })
}

// item is what the model has read: a token, or a rule's node.
type item struct {
	token  api.Token
	node   api.Node
	isNode bool
}

// wrong is what the model throws.
type wrong struct {
	at int
	e  api.Errno
}

// model reads tokens by the grammar.
type model struct {
	tokens []api.Token
	end    int
}

// refuse throws the next token, or the end.
func (m *model) refuse() {
	if len(m.tokens) == 0 {
		panic(wrong{m.end, api.ErrSyntaxEnd})
	}
	panic(wrong{m.tokens[0].At, api.ErrSyntaxToken})
}

// rule reads what a rule says and gives its node.
func (m *model) rule(rule string) api.Node {
	items := m.read(rules[rule], rule, nil)
	if rule == "number" || rule == "condition" {
		wantSort(items[0].node, rule)
		return items[0].node
	}
	return built(rule, items)
}

// read reads a form of a rule and adds what it has read to the items.
func (m *model) read(f form, rule string, items []item) []item {
	switch f.what {
	case "rule":
		items = append(items, item{node: m.rule(f.text), isNode: true})
		looked(rule, items)
	case "literal", "terminal":
		if len(m.tokens) == 0 || !isFirst(f, m.tokens[0]) {
			m.refuse()
		}
		items = append(items, item{token: m.tokens[0]})
		m.tokens = m.tokens[1:]
		looked(rule, items)
	case "row":
		for _, part := range f.parts {
			items = m.read(part, rule, items)
		}
	case "choice":
		// A choice of one has nothing to choose.
		for _, part := range f.parts {
			if len(f.parts) == 1 || len(m.tokens) > 0 && isFirst(part, m.tokens[0]) {
				return m.read(part, rule, items)
			}
		}
		m.refuse()
	case "maybe":
		if len(m.tokens) > 0 && isFirst(f, m.tokens[0]) {
			items = m.read(f.parts[0], rule, items)
		}
	case "many":
		for len(m.tokens) > 0 && isFirst(f, m.tokens[0]) {
			items = m.read(f.parts[0], rule, items)
		}
	}
	return items
}

// whole reads what a rule says, with nothing behind it.
func (m *model) whole(rule string) api.Node {
	n := m.rule(rule)
	if len(m.tokens) > 0 {
		m.refuse()
	}
	return n
}

func sortOf(n api.Node) string {
	if n.Kind >= 31 {
		return "condition"
	}
	return "number"
}

func wantSort(n api.Node, sort string) {
	if sortOf(n) != sort {
		panic(wrong{n.At, api.ErrSyntaxToken})
	}
}

// operandSorts are the sorts of the operands that the rules have.
var operandSorts = map[string]string{"or": "condition", "and": "condition", "not": "condition", "compare": "number", "sum": "number", "product": "number"}

// looked asks the sorts of operands as soon as the chapter says: one ahead of an operator when that is read, others when they are.
func looked(rule string, items []item) {
	last, sort := items[len(items)-1], operandSorts[rule]
	switch {
	case rule == "atom" && last.isNode:
		if word := items[0].token.Text; word == "min" || word == "max" {
			wantSort(last.node, "number")
		}
	case sort == "" || len(items) < 2:
	case last.isNode:
		wantSort(last.node, sort)
	case len(items) == 2:
		wantSort(items[0].node, sort)
	}
}

var (
	operatorKinds = map[string]int{"or": 36, "and": 35, "<": 31, "=": 32, "+": 22, "-": 23, "*": 24, "/": 25, "%": 26}
	clauseKinds   = map[string]int{"let": 2, "volume": 3, "snapshot": 4, "keep": 5, "absent": 6, "rename": 7, "exact": 8, "repeat": 9, "when": 10}
	callKinds     = map[string]int{"min": 27, "max": 28, "size": 29, "free": 30, "exists": 33}
)

// built makes a rule's node of what it has read.
func built(rule string, items []item) api.Node {
	var kids []api.Node
	var texts []string
	for _, i := range items {
		if i.isNode {
			kids = append(kids, i.node)
		} else {
			texts = append(texts, i.token.Text)
		}
	}
	at := 0
	if len(items) > 0 {
		at = items[0].token.At
	}
	switch rule {
	case "plan":
		return api.Node{Kind: 1, Kids: kids}
	case "block":
		return api.Node{Kind: 11, At: at, Kids: kids}
	case "name":
		return builtName(items[0].token)
	case "clause":
		return builtClause(texts, at, kids)
	case "atom":
		return builtAtom(items[0].token, kids)
	case "not":
		if len(texts) == 1 {
			return api.Node{Kind: 34, At: at, Kids: kids}
		}
		return kids[0]
	}
	out := kids[0]
	for i, operator := range texts {
		out = api.Node{Kind: operatorKinds[operator], At: out.At, Kids: []api.Node{out, kids[i+1]}}
	}
	return out
}

func builtClause(texts []string, at int, kids []api.Node) api.Node {
	out := api.Node{Kind: clauseKinds[texts[0]], At: at, Kids: kids}
	switch texts[0] {
	case "let", "repeat":
		out.Text = texts[1]
	case "volume":
		if len(kids) == 3 {
			out.Kids = []api.Node{kids[0], kids[2], kids[1]}
		}
		if slices.Contains(texts, "thick") {
			out.Number = 1
		}
	}
	return out
}

func builtAtom(first api.Token, kids []api.Node) api.Node {
	kind, isCall := callKinds[first.Text]
	switch {
	case first.Kind == api.TokenNumber:
		return api.Node{Kind: 20, Number: first.Number, At: first.At}
	case isCall:
		return api.Node{Kind: kind, At: first.At, Kids: kids}
	case first.Kind == api.TokenWord:
		return api.Node{Kind: 21, Text: first.Text, At: first.At}
	}
	return kids[0]
}

func builtName(t api.Token) api.Node {
	out := api.Node{Kind: 12, At: t.At}
	if t.Kind == api.TokenWord {
		out.Kids = []api.Node{{Kind: 13, Text: t.Text, At: t.At}}
		return out
	}
	run := ""
	for i := 0; i <= len(t.Text); i++ {
		if i < len(t.Text) && t.Text[i] != '$' {
			run += t.Text[i : i+1]
			continue
		}
		if run != "" {
			out.Kids = append(out.Kids, api.Node{Kind: 13, Text: run, At: t.At + 1 + i - len(run)})
			run = ""
		}
		if i < len(t.Text) {
			size := strings.IndexByte(t.Text[i:], '}')
			out.Kids = append(out.Kids, modelOf(t.Text[i+2:i+size], t.At+1+i+2).whole("number"))
			i += size
		}
	}
	return out
}

// modelOf makes ready to read a text that stands from a place on.
func modelOf(text string, from int) *model {
	tokens, at, e := lex.Tokens([]byte(text))
	if e != api.OK {
		panic(wrong{from + at, e})
	}
	for i := range tokens {
		tokens[i].At += from
	}
	return &model{tokens: tokens, end: from + len(text)}
}

// modelledTree gives what Parse should answer, whatever the depth.
func modelledTree(text string) (n api.Node, at int, e api.Errno) {
	defer func() {
		if thrown := recover(); thrown != nil {
			w, ok := thrown.(wrong)
			if !ok {
				panic(thrown)
			}
			n, at, e = api.Node{}, w.at, w.e
		}
	}()
	return modelOf(text, 0).whole("plan"), 0, api.OK
}

// modelled gives what Parse should answer.
func modelled(text string) (api.Node, int, api.Errno) {
	n, at, e := modelledTree(text)
	if e == api.OK {
		if level := levels(n); len(level) > mostDepth {
			return api.Node{}, level[mostDepth][0].At, api.ErrSyntaxDeep
		}
	}
	return n, at, e
}

// levels gives the nodes of each depth, in the order of the kids.
func levels(n api.Node) [][]api.Node {
	var out [][]api.Node
	for level := []api.Node{n}; len(level) > 0; {
		out = append(out, level)
		var next []api.Node
		for _, n := range level {
			next = append(next, n.Kids...)
		}
		level = next
	}
	return out
}

// told tells an answer of Parse.
func told(n api.Node, at int, e api.Errno) string {
	if isZero(n) {
		return fmt.Sprintf("nothing, %d, %d", at, e)
	}
	return fmt.Sprintf("%s, %d, %d", shown(n), at, e)
}
