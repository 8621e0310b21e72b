package tidy

import (
	"bytes"

	"cistern/api"
	"cistern/dry"
)

// step is an operation with what it meets. That stays as it is, whatever is spared ahead of it: what is left there does the same.
type step struct {
	api.Op
	dry.Place
}

func stepsOf(v api.View, ops []api.Op) ([]step, api.Errno) {
	places, e := dry.Places(v, ops)
	if e != api.OK {
		return nil, e
	}
	steps := make([]step, len(ops))
	for i, o := range ops {
		steps[i] = step{o, places[i]}
	}
	return steps, api.OK
}

// opsOf gives the operations of steps, with data of their own; empty data could have spare room, and becomes none.
func opsOf(steps []step) []api.Op {
	var ops []api.Op
	for _, s := range steps {
		s.Data = append([]byte(nil), s.Data...)
		ops = append(ops, s.Op)
	}
	return ops
}

// alike tells how many operations a shorter list has in common with another, from the beginning on.
func alike(shorter []api.Op, ops []api.Op) int {
	for i, o := range shorter {
		if !isSame(o, ops[i]) {
			return i
		}
	}
	return len(shorter)
}

func isSame(a api.Op, b api.Op) bool {
	return a.Kind == b.Kind && a.Name == b.Name && a.Other == b.Other && a.From == b.From && a.To == b.To && bytes.Equal(a.Data, b.Data)
}
