package op_test

import (
	"slices"
	"testing"

	"cistern/api"
)

// programmed gives an operation of each kind that a program may hold.
func programmed() []api.Op {
	return slices.DeleteFunc(each(), func(o api.Op) bool { return o.Kind == api.OpWrite || o.Kind == api.OpExtend })
}

func TestP16_6WhatAProgramHolds(t *testing.T) {
	checkProgram(t, nil, api.OK)
	checkProgram(t, []api.Op{}, api.OK)
	for _, o := range programmed() {
		checkProgram(t, list(o), api.OK)
	}
	checkProgram(t, programmed(), api.OK)
}

func TestP16_6HowManyAProgramHolds(t *testing.T) {
	for _, o := range programmed() {
		for _, count := range []int{1, 119, 120} {
			checkProgram(t, slices.Repeat(list(o), count), api.OK)
		}
		for _, count := range []int{121, 122, 240, 256, 376, 10000} {
			checkProgram(t, slices.Repeat(list(o), count), api.ErrOpMany)
		}
	}
	// That there are too many is told ahead of all that is wrong with one.
	for _, bad := range list(write("a", 0, nil), extend(0), api.Op{}, remove("A")) {
		ops := slices.Repeat(list(remove("a")), 121)
		for _, at := range []int{0, 60, 119, 120} {
			with := slices.Clone(ops)
			with[at] = bad
			checkProgram(t, with, api.ErrOpMany)
			checkProgram(t, slices.Delete(with, (at+1)%121, (at+1)%121+1), map[bool]api.Errno{true: api.ErrOpProgram, false: judged(bad)}[bad.Kind == 8 || bad.Kind == 11])
		}
	}
}

func TestP16_6WritesAndExtends(t *testing.T) {
	for _, bad := range list(
		each()[api.OpWrite-1], each()[api.OpExtend-1],
		api.Op{Kind: api.OpWrite}, api.Op{Kind: api.OpExtend},
		write("A", -1, make([]byte, 3)), extend(-1),
		api.Op{Kind: api.OpWrite, Name: "A", Other: "A", From: -1, To: -1},
		api.Op{Kind: api.OpExtend, Name: "A", Other: "A", From: -1, To: -1, Data: []byte{1}},
	) {
		checkProgram(t, list(bad), api.ErrOpProgram)
		checkProgram(t, append(programmed(), bad), api.ErrOpProgram)
		checkProgram(t, append(list(bad), programmed()...), api.ErrOpProgram)
		for at := range 120 {
			ops := slices.Repeat(list(remove("a")), 120)
			ops[at] = bad
			checkProgram(t, ops, api.ErrOpProgram)
		}
	}
}

// Operation by operation: the first one with an error decides.
func TestP16_6TheOrderOfTheErrors(t *testing.T) {
	wrong := map[api.Errno]api.Op{
		api.ErrOpProgram: extend(5),
		api.ErrActKind:   {Kind: 12},
		api.ErrActForm:   {Kind: api.OpDelete, Name: "A", To: 1},
		api.ErrActName:   create("A", 0),
		api.ErrActSize:   create("a", 0),
		api.ErrActRange:  discard("a", 1, 0),
	}
	for want, bad := range wrong {
		for _, other := range wrong {
			checkProgram(t, list(bad, other), want)
			checkProgram(t, append(programmed(), bad, remove("a"), other), want)
		}
		checkProgram(t, append(slices.Repeat(list(remove("a")), 119), bad), want)
	}
	checkProgram(t, list(write("a", 0, make([]byte, 511)), api.Op{}), api.ErrOpProgram)
	checkProgram(t, list(api.Op{}, write("a", 0, make([]byte, 511))), api.ErrActKind)
}

func TestP16_6WhatIsDrawn(t *testing.T) {
	d := &drawing{seed: 31}
	for range 5000 {
		var ops []api.Op
		for range d.below(5) {
			ops = append(ops, d.operation())
		}
		ops = append(ops, d.spoilt())
		want := api.OK
		for _, o := range ops {
			if o.Kind == 8 || o.Kind == 11 {
				want = api.ErrOpProgram
			} else {
				want = judged(o)
			}
			if want != api.OK {
				break
			}
		}
		checkProgram(t, ops, want)
	}
}
