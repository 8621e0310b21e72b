package stream

import (
	"bytes"

	"cistern/api"
	"cistern/catalog"
	"cistern/field"
)

// taken takes a stream from its bytes; its runs lie in them.
func taken(stream []byte) (content, api.Errno) {
	if !bytes.HasPrefix(stream, []byte(magic)) {
		return content{}, api.ErrStreamForm
	}
	end := len(stream) - sumWidth
	if end < len(magic) || !bytes.Equal(stream[end:], packed(int(field.Sum(stream[:end])), sumWidth)) {
		return content{}, api.ErrStreamSum
	}
	c, ok := contentOf(stream[len(magic):end])
	if !ok {
		return content{}, api.ErrStreamForm
	}
	return c, api.OK
}

// contentOf takes what stands between a stream's first bytes and its sum, false: it may not be.
func contentOf(body []byte) (content, bool) {
	k := &taker{rest: body}
	c := content{name: k.text(), size: k.number(sizeWidth), since: k.text(), sum: uint32(k.number(sumWidth))}
	count := k.number(countWidth)
	if k.isShort || !c.headMayBe() {
		return content{}, false
	}
	last := edge{}
	for range count {
		r, ok := k.run(c, &last)
		if !ok {
			return content{}, false
		}
		c.runs = append(c.runs, r)
	}
	return c, len(k.rest) == 0
}

func (c content) headMayBe() bool {
	if !catalog.IsName(c.name) || c.size < 1 || c.size > api.MaxSize {
		return false
	}
	if c.since == "" {
		return c.sum == 0
	}
	return catalog.IsName(c.since)
}

// taker takes parts from bytes, one behind the other.
type taker struct {
	rest    []byte
	isShort bool // there was less than was asked for
}

// edge is where a run ends, and of which kind it is.
type edge struct{ kind, to int }

func (k *taker) part(size int) []byte {
	if size > len(k.rest) {
		k.rest, k.isShort = nil, true
		return nil
	}
	part := k.rest[:size]
	k.rest = k.rest[size:]
	return part
}

func (k *taker) number(width int) int {
	n, e := field.Unpack(k.part(width), width)
	if e != api.OK {
		return 0
	}
	return n[0]
}

func (k *taker) text() string { return string(k.part(k.number(textWidth))) }

// run takes a run of a stream behind another one, false: it may not be.
func (k *taker) run(c content, last *edge) (run, bool) {
	kind, r := k.number(kindWidth), api.Range{From: k.number(blockWidth), To: k.number(blockWidth)}
	if k.isShort || !last.mayBeAheadOf(kind, r) || r.From >= r.To || r.To > c.size {
		return nil, false
	}
	*last = edge{kind: kind, to: r.To}
	switch kind {
	case kindData:
		blocks := k.part(api.BlockSize * (r.To - r.From))
		return dataRun{Range: r, source: held(blocks)}, !k.isShort
	case kindGone:
		return goneRun{r}, c.since != ""
	}
	return nil, false
}

// mayBeAheadOf tells whether a run may follow: two that touch and are of one kind would be one.
func (g edge) mayBeAheadOf(kind int, r api.Range) bool {
	return r.From > g.to || r.From == g.to && kind != g.kind
}
