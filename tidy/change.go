package tidy

import "cistern/api"

// change looks at the end of a list: it gives how many of its last steps can go, 0 if nothing can be spared, and what stands in
// their place then.
type change func(list []step) (int, []step)

// changes gives what can be spared. What is idle comes first, so that of two that are a pair neither is.
func changes() []change {
	return []change{
		lastIsIdle,
		lastTwo(api.OpResize, oneResize),
		lastTwo(api.OpRename, oneRename),
		lastTwo(api.OpDiscard, oneDiscard),
		lastTwo(api.OpFill, oneFill),
		lastTwo(api.OpRestore, oneRestore),
	}
}

func lastIsIdle(list []step) (int, []step) {
	if len(list) > 0 && list[len(list)-1].isIdle() {
		return 1, nil
	}
	return 0, nil
}

func (s step) isIdle() bool {
	switch s.Kind {
	case api.OpResize:
		return s.To == s.Size
	case api.OpDiscard:
		return s.Bare
	case api.OpFill:
		return s.Full
	case api.OpRestore:
		return s.Name == s.Other
	}
	return false
}

// lastTwo makes a change of what says of two steps of a kind whether they are a pair, and what is left of it.
func lastTwo(kind int, one func(step, step) ([]step, bool)) change {
	return func(list []step) (int, []step) {
		n := len(list)
		if n < 2 || list[n-2].Kind != kind || list[n-1].Kind != kind {
			return 0, nil
		}
		left, isPair := one(list[n-2], list[n-1])
		if !isPair {
			return 0, nil
		}
		return 2, left
	}
}

// oneResize leaves the second one, which meets what the first one met.
func oneResize(a step, b step) ([]step, bool) {
	if a.Name != b.Name || a.To < b.To && a.To < a.Size {
		return nil, false
	}
	b.Size = a.Size
	return []step{b}, true
}

func oneRename(a step, b step) ([]step, bool) {
	if a.Other != b.Name {
		return nil, false
	}
	if a.Name == b.Other {
		return nil, true
	}
	a.Other = b.Other
	return []step{a}, true
}

// oneDiscard leaves one that is not idle, since the first one is not.
func oneDiscard(a step, b step) ([]step, bool) {
	if a.Name != b.Name || a.To < b.From || b.To < a.From {
		return nil, false
	}
	a.From, a.To = min(a.From, b.From), max(a.To, b.To)
	return []step{a}, true
}

// oneFill leaves what two discards of these ranges would, if that may be.
func oneFill(a step, b step) ([]step, bool) {
	left, isPair := oneDiscard(a, b)
	if !isPair || left[0].To-left[0].From > api.MaxFill {
		return nil, false
	}
	return left, true
}

func oneRestore(a step, b step) ([]step, bool) {
	if a.Name != b.Name {
		return nil, false
	}
	return []step{b}, true
}
