package delta

import (
	"iter"

	"cistern/api"
)

// meeting is what two maps have at a logical block that at least one of them has: same, apart or alone.
type meeting interface{ isMeeting() }

// same: both have the same pool block.
type same struct{}

// apart: both have one, each another.
type apart struct{ a, b int }

// alone: one of them has one, the other none.
type alone struct{ block int }

func (same) isMeeting()  {}
func (apart) isMeeting() {}
func (alone) isMeeting() {}

// Both is the pool blocks that two maps have at a logical block; 0: none.
type Both struct{ A, B int }

// SideBySide goes through the logical blocks that at least one of two maps has, rising. The maps' pairs rise.
func SideBySide(a []api.Pair, b []api.Pair) iter.Seq2[int, Both] {
	return func(yield func(int, Both) bool) {
		a, b := a, b
		for len(a) > 0 || len(b) > 0 {
			l := next(a, b)
			if !yield(l, Both{A: at(&a, l), B: at(&b, l)}) {
				return
			}
		}
	}
}

// next gives the least logical block of two lists, of which one may be empty.
func next(a []api.Pair, b []api.Pair) int {
	switch {
	case len(a) == 0:
		return b[0].Logical
	case len(b) == 0:
		return a[0].Logical
	}
	return min(a[0].Logical, b[0].Logical)
}

// at takes the pair of a logical block off the list, if it comes next there. It gives its pool block, 0: it does not.
func at(pairs *[]api.Pair, l int) int {
	if len(*pairs) == 0 || (*pairs)[0].Logical != l {
		return 0
	}
	block := (*pairs)[0].Block
	*pairs = (*pairs)[1:]
	return block
}

// meet tells what the two are to each other.
func (x Both) meet() meeting {
	switch {
	case x.A == x.B:
		return same{}
	case x.B == 0:
		return alone{x.A}
	case x.A == 0:
		return alone{x.B}
	}
	return apart{x.A, x.B}
}
