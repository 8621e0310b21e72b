package check

import (
	"slices"

	"cistern/api"
	"cistern/catalog"
)

// kinds gives how each kind of problem is found.
func kinds() []func(s *sight) ([]api.Problem, api.Errno) {
	return []func(s *sight) ([]api.Problem, api.Errno){
		(*sight).counts,
		(*sight).nodes,
		(*sight).roots,
		(*sight).names,
		(*sight).origins,
		(*sight).sizes,
		(*sight).slots,
	}
}

// counts finds pool blocks that are counted otherwise than they are referenced. Where a map cannot be walked, nobody can tell
// what it references.
func (s *sight) counts() ([]api.Problem, api.Errno) {
	if slices.Contains(s.isWalked, false) {
		return nil, api.OK
	}
	count, e := s.pool.Space().Counts(s.t)
	if e != api.OK {
		return nil, e
	}
	references := s.references()
	var found []api.Problem
	for block := 1; block <= s.capacity; block++ {
		n, e := count(block)
		if e != api.OK {
			return nil, e
		}
		if n != references[block] {
			found = append(found, api.Problem{Kind: api.ProblemCount, Where: block, Found: n, Wanted: references[block]})
		}
	}
	return found, api.OK
}

// nodes finds roots in the pool whose maps cannot be walked. Several volumes can have one such root.
func (s *sight) nodes() ([]api.Problem, api.Errno) {
	var found []api.Problem
	for i, v := range s.volumes {
		problem := api.Problem{Kind: api.ProblemNode, Where: v.Root}
		if !s.isWalked[i] && !s.isBeyond(v.Root) && !slices.Contains(found, problem) {
			found = append(found, problem)
		}
	}
	return found, api.OK
}

// roots finds those that the pool does not have.
func (s *sight) roots() ([]api.Problem, api.Errno) {
	var found []api.Problem
	for _, v := range s.volumes {
		if s.isBeyond(v.Root) {
			found = append(found, api.Problem{Kind: api.ProblemRoot, Where: v.ID, Found: v.Root, Wanted: s.capacity})
		}
	}
	return found, api.OK
}

// names finds those that may not be, or are another's.
func (s *sight) names() ([]api.Problem, api.Errno) {
	var found []api.Problem
	for _, v := range s.volumes {
		isLower := func(other api.Entry) bool { return other.Name == v.Name && other.ID < v.ID }
		if !catalog.IsName(v.Name) || slices.ContainsFunc(s.volumes, isLower) {
			found = append(found, api.Problem{Kind: api.ProblemName, Where: v.ID})
		}
	}
	return found, api.OK
}

// origins finds those from which a volume cannot come.
func (s *sight) origins() ([]api.Problem, api.Errno) {
	var found []api.Problem
	for _, v := range s.volumes {
		if !s.hasOrigin(v) {
			found = append(found, api.Problem{Kind: api.ProblemOrigin, Where: v.ID, Found: v.Origin})
		}
	}
	return found, api.OK
}

func (s *sight) hasOrigin(v api.Entry) bool {
	if v.Origin == 0 {
		return v.Kind != api.KindSnap
	}
	isOrigin := func(other api.Entry) bool { return other.ID == v.Origin }
	return v.Origin < v.ID && slices.ContainsFunc(s.volumes, isOrigin)
}

// sizes finds those beyond which something is mapped.
func (s *sight) sizes() ([]api.Problem, api.Errno) {
	var found []api.Problem
	for i, v := range s.volumes {
		if !s.isWalked[i] {
			continue
		}
		// Of an entry that no catalog laid the size can be any.
		pairs, e := s.pool.Map().Pairs(s.t, v.Root, min(v.Size, api.MaxSize), api.MaxSize)
		if e != api.OK {
			return nil, e
		}
		if len(pairs) > 0 {
			past := pairs[len(pairs)-1].Logical + 1
			found = append(found, api.Problem{Kind: api.ProblemSize, Where: v.ID, Found: past, Wanted: v.Size})
		}
	}
	return found, api.OK
}

// slots finds a program slot that cannot be read.
func (s *sight) slots() ([]api.Problem, api.Errno) {
	if _, e := s.pool.Slot(s.t); e != api.OK {
		return []api.Problem{{Kind: api.ProblemSlot, Found: int(e)}}, api.OK
	}
	return nil, api.OK
}
