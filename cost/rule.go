package cost

import (
	"cistern/api"
	"cistern/op"
)

// How many logical blocks a node of each level stands for.
const (
	rootSpan   = api.Fan * middleSpan
	middleSpan = api.Fan * lowestSpan
	lowestSpan = api.Fan
)

// A rule tells the worst of an operation of its kind that may be: so a range lies within 0 to MaxSize, and nothing of it is cut off.
type rule func(o api.Op) int

// rules gives the rule of each kind.
func rules() map[int]rule {
	return map[int]rule{
		api.OpCreate:  nothing,
		api.OpSnap:    nothing,
		api.OpClone:   nothing,
		api.OpResize:  resize,
		api.OpRename:  nothing,
		api.OpDelete:  nothing,
		api.OpRestore: nothing,
		api.OpWrite:   write,
		api.OpDiscard: discard,
		api.OpFill:    fill,
		api.OpExtend:  nothing,
	}
}

func worstBy(known map[int]rule, o api.Op) (int, api.Errno) {
	worst, ok := known[o.Kind]
	if !ok {
		return 0, api.ErrCostKind
	}
	if e := op.Check(o); e != api.OK {
		return 0, e
	}
	return worst(o), api.OK
}

// nothing: what is only shared, named or let go whole takes no pool block.
func nothing(api.Op) int { return 0 }

func write(o api.Op) int { return mapping(o.From, o.From+1) }

func fill(o api.Op) int { return mapping(o.From, o.To) }

func discard(o api.Op) int { return dropping(o.From, o.To) }

func resize(o api.Op) int { return dropping(o.To, api.MaxSize) }

// mapping tells what it takes to map a range of which all on the way is shared or not there.
func mapping(from int, to int) int {
	return sum(met(from, to, rootSpan), met(from, to, middleSpan), met(from, to, lowestSpan), to-from)
}

// dropping tells what it takes to drop a range, where each node is shared and has blocks on all sides of the range's ends.
func dropping(from int, to int) int {
	return sum(parted(from, to, rootSpan), parted(from, to, middleSpan), parted(from, to, lowestSpan))
}

// met tells how many spans a range meets.
func met(from int, to int, span int) int {
	if from >= to {
		return 0
	}
	return (to-1)/span - from/span + 1
}

// parted tells how many spans a range meets and does not cover.
func parted(from int, to int, span int) int {
	whole := to/span - (from+span-1)/span
	return met(from, to, span) - max(0, whole)
}

func sum(numbers ...int) int {
	total := 0
	for _, n := range numbers {
		total += n
	}
	return total
}
