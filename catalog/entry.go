package catalog

import (
	"strings"

	"cistern/api"
	"cistern/field"
)

// How many bytes the fields of an entry take. A text has a byte more, which tells its length.
const (
	idWidth    = 4
	sizeWidth  = 3
	kindWidth  = 1
	flagWidth  = 1
	rootWidth  = 3
	slotSize   = 1 + api.MaxName + idWidth + sizeWidth + idWidth + kindWidth + flagWidth + rootWidth
	nameSigns  = "abcdefghijklmnopqrstuvwxyz~0123456789.-_@"
	firstSigns = "abcdefghijklmnopqrstuvwxyz~"
)

// carrier carries fields to their bytes, or from them.
type carrier interface {
	// from says at which byte of the block the next field stands.
	from(at int)
	text(s *string, width int)
	number(n *int, width int)
	flag(b *bool)
}

// bytesAt are a block's bytes, and the place of the next field.
type bytesAt struct {
	block []byte
	at    int
}

// laying carries fields to bytes.
type laying struct{ bytesAt }

// taking carries fields from bytes.
type taking struct{ bytesAt }

// fields gives what carries the fields of an entry, in the order in which they are laid: the ID first, which tells whether
// there is an entry at all.
func fields() []func(c carrier, e *api.Entry) {
	return []func(c carrier, e *api.Entry){
		func(c carrier, e *api.Entry) { c.number(&e.ID, idWidth) },
		func(c carrier, e *api.Entry) { c.text(&e.Name, api.MaxName) },
		func(c carrier, e *api.Entry) { c.number(&e.Size, sizeWidth) },
		func(c carrier, e *api.Entry) { c.number(&e.Origin, idWidth) },
		func(c carrier, e *api.Entry) { c.number(&e.Kind, kindWidth) },
		func(c carrier, e *api.Entry) { c.flag(&e.Partial) },
		func(c carrier, e *api.Entry) { c.number(&e.Root, rootWidth) },
	}
}

// carryEntry carries an entry. Of an empty slot there is no more than the ID: most slots of most tables are empty.
func carryEntry(c carrier, e *api.Entry, parts []func(c carrier, e *api.Entry)) {
	for _, part := range parts {
		part(c, e)
		if e.ID == 0 {
			return
		}
	}
}

func (p *bytesAt) from(at int) { p.at = at }

// part gives the next bytes.
func (p *bytesAt) part(width int) []byte {
	p.at += width
	return p.block[p.at-width : p.at]
}

func (l *laying) text(s *string, width int) {
	length := len(*s)
	l.number(&length, 1)
	copy(l.part(width), *s)
}

// What is laid was asked for its bounds before: it has room in its width.
func (l *laying) number(n *int, width int) {
	data, _ := field.Pack(api.Field{Width: width, Value: *n})
	copy(l.part(width), data)
}

func (l *laying) flag(b *bool) {
	n := 0
	if *b {
		n = 1
	}
	l.number(&n, flagWidth)
}

func (k *taking) text(s *string, width int) {
	length := 0
	k.number(&length, 1)
	*s = string(k.part(width)[:min(length, width)])
}

// number reads what Pack has laid. Unpack would make a list of each number, and every call reads some hundreds.
func (k *taking) number(n *int, width int) {
	*n = 0
	for i, b := range k.part(width) {
		*n |= int(b) << (8 * i)
	}
}

func (k *taking) flag(b *bool) {
	n := 0
	k.number(&n, flagWidth)
	*b = n != 0
}

// IsName tells whether a name may be: the other layers have the same names.
func IsName(name string) bool {
	if len(name) < 1 || len(name) > api.MaxName || !strings.Contains(firstSigns, name[:1]) {
		return false
	}
	for i := range len(name) {
		if strings.IndexByte(nameSigns, name[i]) < 0 {
			return false
		}
	}
	return true
}

// mayBe tells whether an entry may be, but for its name.
func mayBe(e api.Entry) bool {
	return isWithin(e.ID, 1, api.MaxID) &&
		isWithin(e.Size, 1, api.MaxSize) &&
		isWithin(e.Origin, 0, api.MaxID) &&
		isWithin(e.Kind, api.KindVolume, api.KindSnap) &&
		isWithin(e.Root, 0, api.MaxCapacity)
}

func isWithin(n int, least int, most int) bool { return n >= least && n <= most }
