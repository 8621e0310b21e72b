package space

import (
	"iter"

	"cistern/api"
)

// group is a run of pool blocks whose counts stand in one page, as the indexes of both tables tell of it.
type group struct {
	view
	old       committed
	number    int
	blocks    int  // how many of its pool blocks there are
	zeros     int  // how many of them have the count 0 as it is seen
	isAsBegun bool // whether these are the same that had it when the transaction began
}

// groups goes through the groups in which a count is 0. It reads the index alone, and of it no more than is asked for.
func (v view) groups() iter.Seq2[group, api.Errno] {
	return func(yield func(group, api.Errno) bool) {
		old, e := v.begun()
		var here, before []byte
		for k := range groupOf(v.size) + 1 {
			i := k % indexSize
			if e == api.OK && i == 0 {
				here, before, e = v.both(old, k/indexSize)
			}
			if e != api.OK {
				yield(group{}, e)
				return
			}
			blocks := min(v.size-k*groupSize, groupSize)
			zeros := blocks - takenAt(here, i)
			if zeros <= 0 {
				continue
			}
			g := group{view: v, old: old, number: k, blocks: blocks, zeros: zeros}
			g.isAsBegun = turnsAt(here, i) == turnsAt(before, i)
			if !yield(g, api.OK) {
				return
			}
		}
	}
}

// both gives a page as it is seen, and as it was when the transaction began.
func (v view) both(old committed, number int) ([]byte, []byte, api.Errno) {
	here, e := v.page(v.now, number)
	if e != api.OK {
		return nil, nil, e
	}
	before, e := v.page(old, number)
	return here, before, e
}

// free goes through the pool blocks of the group that are free, rising.
func (g group) free() (iter.Seq[int], api.Errno) {
	here, before, e := g.both(g.old, g.countsPage(g.number))
	if e != api.OK {
		return nil, e
	}
	return func(yield func(int) bool) {
		for i := range g.blocks {
			at := headingSize + i
			if here[at] == 0 && before[at] == 0 && !yield(blockOf(g.number, i)) {
				return
			}
		}
	}, api.OK
}

// lowestFree gives the group's first free pool blocks, as many as are asked for or as there are.
func (g group) lowestFree(count int) ([]int, api.Errno) {
	free, e := g.free()
	if e != api.OK {
		return nil, e
	}
	var told []int
	for b := range free {
		told = append(told, b)
		if len(told) == count {
			break
		}
	}
	return told, api.OK
}

func (g group) countFree() (int, api.Errno) {
	if g.isAsBegun {
		return g.zeros, api.OK
	}
	free, e := g.free()
	if e != api.OK {
		return 0, e
	}
	count := 0
	for range free {
		count++
	}
	return count, api.OK
}

func (v view) lowestFree(count int) ([]int, api.Errno) {
	var told []int
	for g, e := range v.groups() {
		if e != api.OK {
			return nil, e
		}
		more, e := g.lowestFree(count - len(told))
		if e != api.OK {
			return nil, e
		}
		told = append(told, more...)
		if len(told) == count {
			return told, api.OK
		}
	}
	return nil, api.ErrSpaceFull
}

func (v view) countFree() (int, api.Errno) {
	count := 0
	for g, e := range v.groups() {
		if e != api.OK {
			return 0, e
		}
		n, e := g.countFree()
		if e != api.OK {
			return 0, e
		}
		count += n
	}
	return count, api.OK
}
