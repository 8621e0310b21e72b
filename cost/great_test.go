package cost_test

import (
	"slices"
	"testing"

	"cistern/api"
)

// Long lists of great ranges: they are not gone through block by block, nor span by span.
func TestP26_2LongLists(t *testing.T) {
	const count = 1000000
	checkLong := func(want int, ops ...api.Op) {
		t.Helper()
		many := slices.Repeat(ops, count/len(ops))
		checkAll(t, many, count/len(ops)*want)
		checkFits(t, count/len(ops)*want, many, true)
		checkFits(t, count/len(ops)*want-1, many, false)
	}
	checkLong(5, discard("a", 1, 262143))
	checkLong(10, discard("a", 1, 262143), discard("b", 4095, 258049))
	checkLong(40, fill("a", 4080, 4112), resize("a", 1))
	checkLong(4, write("a", 262143), resize("a", 262144), create("b", 262144), rename("a", "c"))
}

func TestP26_2TheLastOfMany(t *testing.T) {
	many := slices.Repeat(list(discard("a", 1, 262143)), 500000)
	checkNoAll(t, append(many, api.Op{Kind: 12}), api.ErrCostKind)
	checkNoAll(t, append(many, create("A", 1), api.Op{Kind: 12}), api.ErrActName)
}
