package journal

import (
	"bytes"

	"cistern/api"
	"cistern/field"
)

// The kinds of stamped blocks.
const (
	kindBlank = 1
	kindHead  = 2
	kindPiece = 3
	kindLast  = 4
)

// The log's lives go from the one behind noLife to lastLife, the greatest number of a stamped block, and then begin again.
// noLife is what blanks bear, and a head without a log.
const (
	noLife   = 0
	lastLife = api.MaxSeq
)

// Where a stamped block bears its number.
const (
	lifeFrom = 3
	lifeTo   = 11
)

// The widths of the numbers in records, and the bytes of a put.
const (
	blockWidth = 3
	seqWidth   = 8
	putSize    = blockWidth + api.BlockSize
)

// record is what a block of the journal says. Beside it the block bears a life. In one life no block
// of the log is written twice, so one that bears the log's life was written in it: what stands where
// a write was lost bears an older life, or none. Data never stand in the log as they are, so nobody
// can bring a block there that bears what he likes.
type record interface {
	kind() int
	body() []byte
}

// blank says whose the block is. It stands where nothing was written since Format.
type blank struct{ place }

// head says whose the blocks are, and how many transactions were taken ahead of the log.
type head struct {
	place
	seq int
}

// piece is a part of a transaction that goes on in the next block.
type piece []byte

// last is the part with which a transaction ends.
type last []byte

func (blank) kind() int { return kindBlank }
func (head) kind() int  { return kindHead }
func (piece) kind() int { return kindPiece }
func (last) kind() int  { return kindLast }

func (b blank) body() []byte { return packed(b.fields()...) }
func (h head) body() []byte {
	return packed(append(h.fields(), api.Field{Width: seqWidth, Value: h.seq})...)
}
func (p piece) body() []byte { return p }
func (l last) body() []byte  { return l }

func (p place) fields() []api.Field {
	return []api.Field{{Width: blockWidth, Value: p.from}, {Width: blockWidth, Value: p.blocks}}
}

// packed is asked for what its widths hold alone: numbers of a disk's blocks, and of transactions.
func packed(fields ...api.Field) []byte {
	data, _ := field.Pack(fields...)
	return data
}

// recordsOf cuts a transaction into as few blocks as hold it.
func recordsOf(puts []api.Put) []record {
	rest := bytesOf(puts)
	records := []record{}
	for len(rest) > api.MaxBody {
		records = append(records, piece(rest[:api.MaxBody]))
		rest = rest[api.MaxBody:]
	}
	return append(records, last(rest))
}

func bytesOf(puts []api.Put) []byte {
	data := make([]byte, 0, len(puts)*putSize)
	for _, p := range puts {
		data = append(data, packed(api.Field{Width: blockWidth, Value: p.At})...)
		data = append(data, p.Data...)
	}
	return data
}

// putsOf gives what bytesOf was given, or false: no transaction has such bytes.
func putsOf(data []byte) ([]api.Put, bool) {
	puts := []api.Put{}
	for len(data) >= putSize {
		number, e := field.Unpack(data[:blockWidth], blockWidth)
		if e != api.OK {
			return nil, false
		}
		puts = append(puts, api.Put{At: number[0], Data: data[blockWidth:putSize]})
		data = data[putSize:]
	}
	return puts, len(data) == 0
}

func (j *Journal) writeRecord(at int, r record) api.Errno {
	block, e := stamped(r, j.life)
	if e != api.OK {
		return e
	}
	return j.Write(at, block)
}

func stamped(r record, life int) ([]byte, api.Errno) { return field.Stamp(r.kind(), life, r.body()) }

// readRecord gives a block's record and life; nil, if it has none. It reads past the cache:
// these blocks are asked once, and would drive out such as are asked again.
func (j *Journal) readRecord(at int) (record, int, api.Errno) {
	block, e := j.Disk.Read(at)
	if e != api.OK {
		return nil, 0, e
	}
	kind, life, body, e := field.Unstamp(block)
	if e != api.OK {
		return nil, 0, api.OK
	}
	return recordOf(kind, body), life, api.OK
}

func recordOf(kind int, body []byte) record {
	switch kind {
	case kindHead:
		return headOf(body)
	case kindPiece:
		return piece(body)
	case kindLast:
		return last(body)
	}
	return nil
}

func headOf(body []byte) record {
	n, e := field.Unpack(body, blockWidth, blockWidth, seqWidth)
	if e != api.OK || n[2] > api.MaxSeq {
		return nil
	}
	return head{place: place{from: n[0], blocks: n[1]}, seq: n[2]}
}

// findHead takes life and number of the head that stands there, if it is of this place.
func (j *Journal) findHead() api.Errno {
	r, life, e := j.readRecord(j.from)
	if e != api.OK {
		return e
	}
	h, ok := r.(head)
	if !ok || h.place != j.place {
		return api.ErrJournalNone
	}
	j.life, j.seq = life, h.seq
	return api.OK
}

// findLog takes the transactions that stand in the log, from its beginning to the first one that is not whole.
func (j *Journal) findLog() api.Errno {
	var found []byte
	for i := range j.logRoom() {
		r, life, e := j.readRecord(j.logBlock(i))
		if e != api.OK {
			return e
		}
		if life != j.life || life == noLife {
			return api.OK
		}
		switch r := r.(type) {
		case piece:
			found = append(found, r...)
		case last:
			if !j.takeFound(append(found, r...)) {
				return api.OK
			}
			found = nil
			j.used = i + 1
		default:
			return api.OK
		}
	}
	return api.OK
}

// findNoOther goes through the blocks behind the transactions: where one of them is another journal's,
// that one was laid over this one, which stands there no more.
func (j *Journal) findNoOther() api.Errno {
	own, e := stamped(blank{j.place}, noLife)
	if e != api.OK {
		return e
	}
	for i := j.used; i < j.logRoom(); i++ {
		block, e := j.Disk.Read(j.logBlock(i))
		if e != api.OK {
			return e
		}
		if !bytes.Equal(block, own) && j.isForeign(block) {
			return api.ErrJournalNone
		}
	}
	return api.OK
}

// isForeign tells whether a block is none that this journal can have written. It asks what stands at the
// block's beginning ahead of the sum: that takes long, and a great journal has many blocks of lives that are over.
func (j *Journal) isForeign(block []byte) bool {
	if !saysWhose(block) && !j.isToCome(block) {
		return false
	}
	_, _, _, e := field.Unstamp(block)
	return e == api.OK
}

func saysWhose(block []byte) bool {
	kind := int(block[0])
	return kind == kindHead || kind == kindBlank
}

// isToCome tells whether a block bears a life that the journal has not begun: when it does, that block would be
// taken for the log's. Who has no life wipes the log ahead of the first one.
func (j *Journal) isToCome(block []byte) bool {
	life, e := field.Unpack(block[lifeFrom:lifeTo], lifeTo-lifeFrom)
	return e == api.OK && j.life != noLife && life[0] > j.life
}

// takeFound answers false where the bytes are no transaction of this journal.
func (j *Journal) takeFound(data []byte) bool {
	puts, ok := putsOf(data)
	ok = ok && j.takesMore()
	for _, p := range puts {
		ok = ok && j.checkPut(p) == api.OK
	}
	if ok {
		j.take(puts)
	}
	return ok
}
