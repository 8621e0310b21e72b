package delta

import (
	"iter"

	"cistern/api"
)

// meeting is what two maps have at a logical block that at least one of them has: same, apart or alone.
type meeting interface{ isMeeting() }

// same: both have the same pool block.
type same struct{}

// apart: both have one, each another.
type apart struct{ a, b int }

// alone: one of them has one, the other none.
type alone struct{ block int }

func (same) isMeeting()  {}
func (apart) isMeeting() {}
func (alone) isMeeting() {}

// sideBySide goes through the logical blocks that at least one of two maps has, rising. The maps' pairs rise.
func sideBySide(a []api.Pair, b []api.Pair) iter.Seq2[int, meeting] {
	return func(yield func(int, meeting) bool) {
		a, b := a, b
		for len(a) > 0 || len(b) > 0 {
			l := next(a, b)
			x, y := at(&a, l), at(&b, l)
			if !yield(l, meet(x, y)) {
				return
			}
		}
	}
}

// next gives the least logical block of two lists, of which one may be empty.
func next(a []api.Pair, b []api.Pair) int {
	switch {
	case len(a) == 0:
		return b[0].Logical
	case len(b) == 0:
		return a[0].Logical
	}
	return min(a[0].Logical, b[0].Logical)
}

// at takes the pair of a logical block off the list, if it comes next there. It gives its pool block, 0: it does not.
func at(pairs *[]api.Pair, l int) int {
	if len(*pairs) == 0 || (*pairs)[0].Logical != l {
		return 0
	}
	block := (*pairs)[0].Block
	*pairs = (*pairs)[1:]
	return block
}

// meet tells what two pool blocks are to each other; 0 is none.
func meet(a int, b int) meeting {
	switch {
	case a == b:
		return same{}
	case b == 0:
		return alone{a}
	case a == 0:
		return alone{b}
	}
	return apart{a, b}
}
