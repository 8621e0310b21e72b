package syntax

import "cistern/api"

// role is what a node may be in its place.
type role int

const (
	noRole role = iota
	planRole
	clauseRole
	blockRole
	nameRole
	textRole
	numberRole
	conditionRole
	partRole // of a name: a text or a number
	wordRole // a text that is a WORD
)

// roleOf gives what a node of a kind is, wherever it stands.
func roleOf(kind int) role {
	switch {
	case kind == api.NodePlan:
		return planRole
	case kind >= api.NodeLet && kind <= api.NodeWhen:
		return clauseRole
	case kind == api.NodeBlock:
		return blockRole
	case kind == api.NodeName:
		return nameRole
	case kind == api.NodeText:
		return textRole
	case kind >= api.NodeNumber && kind <= api.NodeFree:
		return numberRole
	case kind >= api.NodeLess && kind <= api.NodeOr:
		return conditionRole
	}
	return noRole
}

// takes tells whether a node may stand in a place of a role.
func (r role) takes(n api.Node) bool {
	is := roleOf(n.Kind)
	switch r {
	case partRole:
		return is == textRole || is == numberRole
	case wordRole:
		return is == textRole && isWord(n.Text)
	}
	return is == r
}

// kids says which kids a node has.
type kids struct {
	roles  []role // theirs, in order
	least  int    // how many of these there have to be
	isOpen bool   // whether there may be more, of the last role
}

func just(roles ...role) kids { return kids{roles: roles, least: len(roles)} }

// kidsOf gives the kids that a node of a kind has.
func kidsOf(kind int) kids {
	switch kind {
	case api.NodePlan, api.NodeBlock:
		return kids{roles: []role{clauseRole}, isOpen: true}
	case api.NodeVolume:
		return kids{roles: []role{nameRole, numberRole, nameRole}, least: 2}
	case api.NodeWhen:
		return kids{roles: []role{conditionRole, blockRole, blockRole}, least: 2}
	case api.NodeLet:
		return just(numberRole)
	case api.NodeKeep:
		return just(numberRole, nameRole)
	case api.NodeRename:
		return just(nameRole, nameRole)
	case api.NodeRepeat:
		return just(numberRole, numberRole, blockRole)
	case api.NodeSnap, api.NodeAbsent, api.NodeSize, api.NodeExists:
		return just(nameRole)
	case api.NodeName:
		return kids{roles: []role{partRole}, isOpen: true}
	case api.NodeMin, api.NodeMax:
		return kids{roles: []role{numberRole}, least: 1, isOpen: true}
	case api.NodeNot:
		return just(conditionRole)
	}
	if o, ok := operatorOf(kind); ok {
		return just(o.rule.operands(), o.rule.operands())
	}
	return kids{}
}

// mayBe tells whether there may be so many.
func (k kids) mayBe(count int) bool { return count >= k.least && (k.isOpen || count <= len(k.roles)) }

// role gives the role of the kid of a place.
func (k kids) role(at int) role { return k.roles[min(at, len(k.roles)-1)] }
