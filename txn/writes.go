package txn

import (
	"bytes"
	"maps"
	"slices"

	"cistern/api"
)

// writes are what a transaction has laid over what is below, and what it needs to go back. Only steps behind
// a mark are noted, and in a block one between two marks: so a mark costs nothing, however much was written
// ahead of it, and going back costs as much as was written since.
type writes struct {
	below source
	laid  map[int]writing
	steps []step
	marks []int // by mark: how many steps there were when it was made
}

// writing is what a transaction has laid in a block.
type writing struct {
	data  []byte
	marks int // how many there were when it was laid
}

// step is a change of what is laid in a block, as going back needs it.
type step interface{ block() int }

// first is the step of a block in which nothing was laid ahead of it.
type first int

// again is the step of a block in which something was.
type again struct {
	first
	before writing
}

func (f first) block() int { return int(f) }

func writesOver(below source) *writes {
	return &writes{below: below, laid: map[int]writing{}}
}

// Read gives a block with what is laid over it.
func (w *writes) Read(at int) ([]byte, api.Errno) {
	if here, ok := w.laid[at]; ok {
		return bytes.Clone(here.data), api.OK
	}
	return w.below.Read(at)
}

func (w *writes) lay(at int, data []byte) {
	before, ok := w.laid[at]
	now := writing{data: bytes.Clone(data), marks: len(w.marks)}
	switch {
	case now.marks == 0:
	case !ok:
		w.steps = append(w.steps, first(at))
	case before.marks < now.marks:
		w.steps = append(w.steps, again{first: first(at), before: before})
	}
	w.laid[at] = now
}

func (w *writes) mark() int {
	w.marks = append(w.marks, len(w.steps))
	return len(w.marks) - 1
}

func (w *writes) hasMark(mark int) bool { return mark >= 0 && mark < len(w.marks) }

// back takes the steps behind a mark back, the last one first.
func (w *writes) back(mark int) {
	stay := w.marks[mark]
	for _, s := range slices.Backward(w.steps[stay:]) {
		w.takeBack(s)
	}
	w.steps = slices.Delete(w.steps, stay, len(w.steps))
	w.marks = w.marks[:mark+1]
}

func (w *writes) takeBack(s step) {
	switch s := s.(type) {
	case first:
		delete(w.laid, s.block())
	case again:
		w.laid[s.block()] = s.before
	}
}

// puts gives what is laid, by rising number of the blocks.
func (w *writes) puts() []api.Put {
	puts := make([]api.Put, 0, len(w.laid))
	for _, at := range slices.Sorted(maps.Keys(w.laid)) {
		puts = append(puts, api.Put{At: at, Data: w.laid[at].data})
	}
	return puts
}
