package syntax

import "cistern/api"

// rule is one of the grammar's rules for numbers and conditions, in its order: the later it stands, the closer it binds.
type rule int

const (
	orRule rule = iota
	andRule
	notRule
	compareRule
	sumRule
	productRule
	atomRule
)

// operator is a word or mark that a rule has between its operands, and the kind of node that it makes of them.
type operator struct {
	rule rule
	text string
	kind int
}

var allOperators = [...]operator{
	{orRule, "or", api.NodeOr},
	{andRule, "and", api.NodeAnd},
	{compareRule, "<", api.NodeLess},
	{compareRule, "=", api.NodeEqual},
	{sumRule, "+", api.NodeAdd},
	{sumRule, "-", api.NodeSub},
	{productRule, "*", api.NodeMul},
	{productRule, "/", api.NodeDiv},
	{productRule, "%", api.NodeRem},
}

// operators gives the kinds of node that the operators of a rule make, by their texts.
func operators(r rule) map[string]int {
	kinds := map[string]int{}
	for _, o := range allOperators {
		if o.rule == r {
			kinds[o.text] = o.kind
		}
	}
	return kinds
}

// operatorOf gives the operator that makes a kind of node, false: none does.
func operatorOf(kind int) (operator, bool) {
	for _, o := range allOperators {
		if o.kind == kind {
			return o, true
		}
	}
	return operator{}, false
}

// ruleOf gives the rule that reads a number or a condition of a kind.
func ruleOf(kind int) rule {
	if o, ok := operatorOf(kind); ok {
		return o.rule
	}
	if kind == api.NodeNot {
		return notRule
	}
	return atomRule
}

// isChain tells whether operators of a rule may follow one another without parentheses.
func (r rule) isChain() bool { return r != compareRule }

// operands gives the role of a rule's operands.
func (r rule) operands() role {
	if r < compareRule {
		return conditionRole
	}
	return numberRole
}
