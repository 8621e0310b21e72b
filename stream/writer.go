package stream

import (
	"cistern/api"
	"cistern/field"
)

// list is bytes, one behind the other.
type list []byte

func (l *list) add(data []byte) { *l = append(*l, data...) }

// writer is a list that keeps the sum of what is written as it goes.
type writer struct {
	list
	sum uint32
}

// scribe writes the parts of a stream.
type scribe struct{ writer }

func (w *writer) bytes(data []byte) {
	w.add(data)
	w.sum = field.SumOn(w.sum, data)
}

func (w *writer) text(s string) {
	w.number(len(s), textWidth)
	w.bytes([]byte(s))
}

func (w *writer) number(n int, width int) { w.bytes(packed(n, width)) }

// packed is asked for what its width holds alone: lengths of names, logical blocks and sums.
func packed(n int, width int) []byte {
	data, _ := field.Pack(api.Field{Width: width, Value: n})
	return data
}

// written gives the bytes of a stream.
func written(c content) ([]byte, api.Errno) {
	s := &scribe{writer{list: make(list, 0, c.length())}}
	s.head(c)
	for _, r := range c.runs {
		if e := r.write(s); e != api.OK {
			return nil, e
		}
	}
	s.number(int(s.sum), sumWidth)
	return s.list, api.OK
}

// length tells how many bytes a stream has: great ones are not to be moved as they grow.
func (c content) length() int {
	head := len(magic) + textWidth + len(c.name) + sizeWidth + textWidth + len(c.since) + sumWidth + countWidth
	return head + runHead*len(c.runs) + api.BlockSize*c.blocks() + sumWidth
}

func (s *scribe) head(c content) {
	s.bytes([]byte(magic))
	s.text(c.name)
	s.number(c.size, sizeWidth)
	s.text(c.since)
	s.number(int(c.sum), sumWidth)
	s.number(len(c.runs), countWidth)
}

func (s *scribe) bounds(kind int, r api.Range) {
	s.number(kind, kindWidth)
	s.number(r.From, blockWidth)
	s.number(r.To, blockWidth)
}
