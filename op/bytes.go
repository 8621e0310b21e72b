package op

import (
	"bytes"

	"cistern/api"
	"cistern/field"
)

// How many bytes the parts of an operation take.
const (
	kindWidth   = 1
	textWidth   = 1
	numberWidth = 4
)

// appendBytes lays an operation that may be behind what data holds.
func appendBytes(data []byte, o api.Op) []byte {
	data = appendNumber(data, o.Kind, kindWidth)
	for _, word := range forms[o.Kind].words() {
		switch word {
		case nameField:
			data = appendText(data, o.Name)
		case otherField:
			data = appendText(data, o.Other)
		case fromField:
			data = appendNumber(data, o.From, numberWidth)
		case toField:
			data = appendNumber(data, o.To, numberWidth)
		case dataField:
			data = append(data, o.Data...)
		}
	}
	return data
}

func appendText(data []byte, text string) []byte {
	return append(appendNumber(data, len(text), textWidth), text...)
}

// appendNumber is asked for what its width holds alone: what stands in an operation that may be.
func appendNumber(data []byte, n int, width int) []byte {
	packed, _ := field.Pack(api.Field{Width: width, Value: n})
	return append(data, packed...)
}

// taker takes parts from bytes, one behind the other.
type taker struct {
	rest    []byte
	isShort bool // there was less than was asked for
}

// operation takes an operation that may be.
func (k *taker) operation() (api.Op, api.Errno) {
	o := api.Op{Kind: k.number(kindWidth)}
	f, ok := formOf(o.Kind)
	if !ok {
		return api.Op{}, api.ErrOpForm
	}
	for _, word := range f.words() {
		switch word {
		case nameField:
			o.Name = k.text()
		case otherField:
			o.Other = k.text()
		case fromField:
			o.From = k.number(numberWidth)
		case toField:
			o.To = k.number(numberWidth)
		case dataField:
			o.Data = bytes.Clone(k.part(api.BlockSize))
		}
	}
	switch {
	case k.isShort:
		return api.Op{}, api.ErrOpCut
	case Check(o) != api.OK:
		return api.Op{}, api.ErrOpForm
	}
	return o, api.OK
}

func (k *taker) part(size int) []byte {
	if size > len(k.rest) {
		k.rest, k.isShort = nil, true
		return nil
	}
	part := k.rest[:size]
	k.rest = k.rest[size:]
	return part
}

func (k *taker) number(width int) int {
	n, e := field.Unpack(k.part(width), width)
	if e != api.OK {
		return 0
	}
	return n[0]
}

func (k *taker) text() string { return string(k.part(k.number(textWidth))) }
