package scope_test

import (
	"fmt"
	"math/big"
	"regexp"

	"cistern/api"
	"cistern/syntax"
)

// The model knows no bindings: it writes what is bound in the place of each word, as far as the binding goes, so that a word which is
// met is bound nowhere; and it reckons with numbers that have no bounds.

// failure is an error and its place.
type failure struct {
	at int
	e  api.Errno
}

// isTwice is the Number that the model gives a let or a repeat whose word was bound already: none that may be has it.
const isTwice = -1

// written gives a tree with a number in the place of a word.
func written(n api.Node, word string, value int) api.Node {
	switch {
	case n.Kind == 21 && n.Text == word:
		return api.Node{Kind: 20, Number: value, At: n.At}
	case (n.Kind == 2 || n.Kind == 9) && n.Text == word:
		n.Number = isTwice
	}
	n.Kids = allWritten(n.Kids, word, value)
	return n
}

func allWritten(ns []api.Node, word string, value int) []api.Node {
	out := make([]api.Node, len(ns))
	for i, n := range ns {
		out[i] = written(n, word, value)
	}
	return out
}

// planNames are the names of the chapter: those of DOC.md that begin with a letter.
var planNames = regexp.MustCompile(`^[a-z][a-z0-9.\-_@~]{0,30}$`)

// modelledCheck gives what Check should answer, nil: OK.
func modelledCheck(n api.Node) *failure {
	if e := syntax.Valid(n); e != api.OK {
		return &failure{n.At, e}
	}
	return lookedAt(n)
}

func lookedAt(n api.Node) *failure {
	switch n.Kind {
	case 1, 11:
		return clausesLookedAt(n.Kids)
	case 21:
		return &failure{n.At, 202}
	case 2, 9:
		if f := allLookedAt(n.Kids[:min(len(n.Kids), 2)]); f != nil {
			return f
		}
		if n.Number == isTwice {
			return &failure{n.At, 201}
		}
		for _, block := range n.Kids[min(len(n.Kids), 2):] {
			return lookedAt(written(block, n.Text, 0))
		}
		return nil
	case 12:
		text := ""
		for _, part := range n.Kids {
			if part.Kind != 13 {
				return allLookedAt(n.Kids)
			}
			text += part.Text
		}
		if !planNames.MatchString(text) {
			return &failure{n.At, 200}
		}
	}
	return allLookedAt(n.Kids)
}

func allLookedAt(ns []api.Node) *failure {
	for _, n := range ns {
		if f := lookedAt(n); f != nil {
			return f
		}
	}
	return nil
}

func clausesLookedAt(clauses []api.Node) *failure {
	if len(clauses) == 0 {
		return nil
	}
	first, others := clauses[0], clauses[1:]
	if f := lookedAt(first); f != nil {
		return f
	}
	if first.Kind == 2 {
		others = allWritten(others, first.Text, 0)
	}
	return clausesLookedAt(others)
}

// modelled unfolds a plan over a view.
type modelled struct {
	view    api.View
	clauses []api.Clause
	rounds  int
}

// volume gives the first volume of a name, nil: there is none.
func (m *modelled) volume(name string) *api.Volume {
	for i := range m.view.Volumes {
		if m.view.Volumes[i].Name == name {
			return &m.view.Volumes[i]
		}
	}
	return nil
}

// value gives a number, or its failure.
func (m *modelled) value(n api.Node) (*big.Int, *failure) {
	var out *big.Int
	switch n.Kind {
	case 20:
		out = big.NewInt(int64(n.Number))
	case 30:
		out = big.NewInt(int64(m.view.Free))
	case 29:
		name, f := m.name(n.Kids[0])
		if f != nil {
			return nil, f
		}
		volume := m.volume(name)
		if volume == nil {
			return nil, &failure{n.Kids[0].At, 202}
		}
		out = big.NewInt(int64(volume.Size))
	default:
		var kids []*big.Int
		for _, kid := range n.Kids {
			value, f := m.value(kid)
			if f != nil {
				return nil, f
			}
			kids = append(kids, value)
		}
		if (n.Kind == 25 || n.Kind == 26) && kids[1].Sign() == 0 {
			return nil, &failure{n.At, 204}
		}
		out = combined(n.Kind, kids)
	}
	if out.Sign() < 0 || out.Cmp(big.NewInt(mostNumber)) > 0 {
		return nil, &failure{n.At, 203}
	}
	return out, nil
}

// combined gives what a kind of node makes of numbers.
func combined(kind int, of []*big.Int) *big.Int {
	out := new(big.Int).Set(of[0])
	switch kind {
	case 22:
		out.Add(of[0], of[1])
	case 23:
		out.Sub(of[0], of[1])
	case 24:
		out.Mul(of[0], of[1])
	case 25:
		out.Div(of[0], of[1])
	case 26:
		out.Mod(of[0], of[1])
	case 27:
		for _, other := range of {
			if other.Cmp(out) < 0 {
				out = other
			}
		}
	case 28:
		for _, other := range of {
			if other.Cmp(out) > 0 {
				out = other
			}
		}
	}
	return out
}

func (m *modelled) name(n api.Node) (string, *failure) {
	text := ""
	for _, part := range n.Kids {
		if part.Kind == 13 {
			text += part.Text
			continue
		}
		value, f := m.value(part)
		if f != nil {
			return "", f
		}
		text += value.String()
	}
	if !planNames.MatchString(text) {
		return "", &failure{n.At, 200}
	}
	return text, nil
}

// truth tells whether a condition holds.
func (m *modelled) truth(n api.Node) (bool, *failure) {
	switch n.Kind {
	case 31, 32:
		first, f := m.value(n.Kids[0])
		if f != nil {
			return false, f
		}
		second, f := m.value(n.Kids[1])
		if f != nil {
			return false, f
		}
		return first.Cmp(second) == map[int]int{31: -1, 32: 0}[n.Kind], nil
	case 33:
		name, f := m.name(n.Kids[0])
		return f == nil && m.volume(name) != nil, f
	case 34:
		is, f := m.truth(n.Kids[0])
		return f == nil && !is, f
	}
	is, f := m.truth(n.Kids[0])
	if f != nil || is == (n.Kind == 36) {
		return is, f
	}
	return m.truth(n.Kids[1])
}

// block unfolds the clauses of a block.
func (m *modelled) block(clauses []api.Node) *failure {
	for i := range clauses {
		c := clauses[i]
		if c.Kind == 2 {
			value, f := m.value(c.Kids[0])
			if f != nil {
				return f
			}
			clauses = append(make([]api.Node, i+1), allWritten(clauses[i+1:], c.Text, int(value.Int64()))...)
			continue
		}
		if f := m.clause(c); f != nil {
			return f
		}
	}
	return nil
}

func (m *modelled) clause(c api.Node) *failure {
	switch c.Kind {
	case 9:
		return m.repeat(c)
	case 10:
		is, f := m.truth(c.Kids[0])
		switch {
		case f != nil:
			return f
		case is:
			return m.block(c.Kids[1].Kids)
		case len(c.Kids) == 3:
			return m.block(c.Kids[2].Kids)
		}
		return nil
	}
	if len(m.clauses) == mostClauses {
		return &failure{c.At, 205}
	}
	made := api.Clause{Kind: map[int]int{3: 1, 4: 2, 5: 3, 6: 4, 7: 5, 8: 6}[c.Kind], Thick: c.Kind == 3 && c.Number == 1, At: c.At}
	for i, kid := range c.Kids {
		if kid.Kind != 12 {
			value, f := m.value(kid)
			if f != nil {
				return f
			}
			made.Number = int(value.Int64())
			continue
		}
		name, f := m.name(kid)
		if f != nil {
			return f
		}
		// The first name is the clause's own, but for what is taken of a source alone.
		if i == 0 && c.Kind != 4 {
			made.Name = name
		} else {
			made.Other = name
		}
	}
	m.clauses = append(m.clauses, made)
	return nil
}

func (m *modelled) repeat(c api.Node) *failure {
	from, f := m.value(c.Kids[0])
	if f != nil {
		return f
	}
	to, f := m.value(c.Kids[1])
	if f != nil {
		return f
	}
	for i := from.Int64(); i <= to.Int64(); i++ {
		if m.rounds == mostRounds {
			return &failure{c.At, 205}
		}
		m.rounds++
		if f := m.block(written(c.Kids[2], c.Text, int(i)).Kids); f != nil {
			return f
		}
	}
	return nil
}

// modelledUnfold gives what Unfold should answer, told.
func modelledUnfold(n api.Node, v api.View) (string, api.Errno) {
	f := modelledCheck(n)
	m := &modelled{view: v}
	if f == nil {
		f = m.block(n.Kids)
	}
	if f != nil {
		return told(nil, f.at, f.e), f.e
	}
	return told(m.clauses, 0, api.OK), api.OK
}

// modelledNumber gives what Number should answer, told.
func modelledNumber(n api.Node, v api.View) (string, api.Errno) {
	let := api.Node{Kind: 2, Text: "x", Kids: []api.Node{n}}
	f := modelledCheck(api.Node{Kind: 1, At: n.At, Kids: []api.Node{let}})
	var value *big.Int
	if f == nil {
		value, f = (&modelled{view: v}).value(n)
	}
	if f != nil {
		return fmt.Sprint(0, f.at, int(f.e)), f.e
	}
	return fmt.Sprint(value, 0, 0), api.OK
}
