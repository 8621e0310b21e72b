package pool

import (
	"bytes"
	"slices"

	"cistern/api"
	"cistern/field"
	"cistern/txn"
)

// A slot is laid as bytes: how many they are, its own numbers, and behind them its operations. They stand in the bodies of
// stamped blocks, each of which bears its place among them; what stands behind the last of these is an older slot's.
const (
	slotKind     = 93
	lengthWidth  = 2
	stateWidth   = 1
	counterWidth = 1
	codeWidth    = 2
	countWidth   = 1
	kindWidth    = 1
	textWidth    = 1
	blockWidth   = 6
	slotHead     = lengthWidth + stateWidth + counterWidth + codeWidth + countWidth
	opMost       = kindWidth + 2*(textWidth+api.MaxName) + 2*blockWidth
	slotMost     = slotHead + api.MaxProgram*opMost
	slotBlocks   = (slotMost + api.MaxBody - 1) / api.MaxBody
	maxCode      = 999
)

// isSlot tells whether a slot may be.
func isSlot(s api.Slot) bool {
	if len(s.Ops) > api.MaxProgram || slices.ContainsFunc(s.Ops, mayNotBe) {
		return false
	}
	count := len(s.Ops)
	switch s.State {
	case api.SlotEmpty:
		return s.Counter == 0 && s.Code == api.OK && count == 0
	case api.SlotRunning:
		return isWithin(s.Counter, 0, count-1) && s.Code == api.OK
	case api.SlotDone:
		return s.Counter == count && s.Code == api.OK
	case api.SlotAborted:
		return isWithin(s.Counter, 0, count-1) && isWithin(int(s.Code), 1, maxCode)
	}
	return false
}

// mayNotBe tells whether no slot may hold an operation.
func mayNotBe(o api.Op) bool {
	return !isWithin(o.Kind, api.OpCreate, api.OpFill) || o.Kind == api.OpWrite ||
		len(o.Name) > api.MaxName || len(o.Other) > api.MaxName ||
		!isWithin(o.From, 0, api.MaxNumber) || !isWithin(o.To, 0, api.MaxNumber) ||
		len(o.Data) > 0
}

func isWithin(n int, least int, most int) bool { return n >= least && n <= most }

// writeSlot lays a slot that may be. It writes the blocks alone that become others: of a program that goes on that is the first.
func (l layout) writeSlot(t *txn.Txn, s api.Slot) api.Errno {
	at := l.slot.from
	for body := range slices.Chunk(slotBytes(s), api.MaxBody) {
		block, e := field.Stamp(slotKind, at-l.slot.from, body)
		if e != api.OK {
			return e
		}
		old, e := t.Read(at)
		if e != api.OK {
			return e
		}
		if !bytes.Equal(old, block) {
			e = t.Write(at, block)
		}
		if e != api.OK {
			return e
		}
		at++
	}
	return api.OK
}

// readSlot answers ErrPoolSlot, where the blocks hold none that SetSlot or Format has laid.
func (l layout) readSlot(t *txn.Txn) (api.Slot, api.Errno) {
	data, e := l.slotBody(t, 0)
	if e != api.OK {
		return api.Slot{}, e
	}
	k := taking{rest: data}
	length := k.number(lengthWidth)
	for i := 1; i < l.slot.count && len(data) < length; i++ {
		more, e := l.slotBody(t, i)
		if e != api.OK {
			return api.Slot{}, e
		}
		data = append(data, more...)
	}
	s := slotOf(data)
	if !isSlot(s) || !bytes.Equal(slotBytes(s), data) {
		return api.Slot{}, api.ErrPoolSlot
	}
	return s, api.OK
}

// slotBody gives what of a slot's bytes stands in a block.
func (l layout) slotBody(t *txn.Txn, number int) ([]byte, api.Errno) {
	block, e := t.Read(l.slot.from + number)
	if e != api.OK {
		return nil, e
	}
	kind, seq, body, e := field.Unstamp(block)
	if e != api.OK || kind != slotKind || seq != number {
		return nil, api.ErrPoolSlot
	}
	return body, api.OK
}

// slotBytes lays a slot that may be.
func slotBytes(s api.Slot) []byte {
	var ops []byte
	for _, o := range s.Ops {
		ops = append(ops, opBytes(o)...)
	}
	head := packed(
		api.Field{Width: lengthWidth, Value: slotHead + len(ops)},
		api.Field{Width: stateWidth, Value: s.State},
		api.Field{Width: counterWidth, Value: s.Counter},
		api.Field{Width: codeWidth, Value: int(s.Code)},
		api.Field{Width: countWidth, Value: len(s.Ops)},
	)
	return append(head, ops...)
}

func opBytes(o api.Op) []byte {
	data := packed(api.Field{Width: kindWidth, Value: o.Kind})
	for _, text := range []string{o.Name, o.Other} {
		data = append(data, packed(api.Field{Width: textWidth, Value: len(text)})...)
		data = append(data, text...)
	}
	return append(data, packed(api.Field{Width: blockWidth, Value: o.From}, api.Field{Width: blockWidth, Value: o.To})...)
}

// packed is asked for what its widths hold alone: what stands in a slot that may be.
func packed(fields ...api.Field) []byte {
	data, _ := field.Pack(fields...)
	return data
}

// slotOf takes a slot from its bytes. Of bytes that are none's it is one that may not be, or whose bytes are others.
func slotOf(data []byte) api.Slot {
	k := taking{rest: data}
	k.number(lengthWidth)
	s := api.Slot{State: k.number(stateWidth), Counter: k.number(counterWidth), Code: api.Errno(k.number(codeWidth))}
	for range k.number(countWidth) {
		s.Ops = append(s.Ops, api.Op{
			Kind:  k.number(kindWidth),
			Name:  k.text(),
			Other: k.text(),
			From:  k.number(blockWidth),
			To:    k.number(blockWidth),
		})
	}
	return s
}

// taking takes parts from bytes, one behind the other. Behind their end it takes zeros.
type taking struct{ rest []byte }

func (k *taking) part(size int) []byte {
	part := make([]byte, size)
	k.rest = k.rest[copy(part, k.rest):]
	return part
}

func (k *taking) number(width int) int {
	n, e := field.Unpack(k.part(width), width)
	if e != api.OK {
		return 0
	}
	return n[0]
}

func (k *taking) text() string { return string(k.part(k.number(textWidth))) }
