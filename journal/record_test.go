package journal

import (
	"bytes"
	"testing"

	"cistern/api"
	"cistern/cache"
	"cistern/disk"
)

// handmade gives a cache on whose disk a head and these blocks of the log stand, at 4 of 16 blocks.
func handmade(t *testing.T, life int, seq int, log ...record) *cache.Cache {
	t.Helper()
	d, e := disk.New(40)
	if e != api.OK {
		t.Fatalf("disk.New = %d", e)
	}
	c, e := cache.New(d, 8)
	if e != api.OK || Format(c, 4, 16) != api.OK {
		t.Fatalf("cache.New = %d, or Format refuses", e)
	}
	j := &Journal{Cache: c, place: place{from: 4, blocks: 16}, life: life, seq: seq}
	if e := j.writeHead(); e != api.OK {
		t.Fatalf("writeHead = %d", e)
	}
	for i, r := range log {
		if e := j.writeRecord(j.logBlock(i), r); e != api.OK {
			t.Fatalf("writeRecord = %d", e)
		}
	}
	return c
}

func checkFound(t *testing.T, c *cache.Cache, wantSeq int) *Journal {
	t.Helper()
	j, e := Open(c, 4, 16)
	if e != api.OK {
		t.Fatalf("Open = %d", e)
	}
	if n, e := j.Seq(); n != wantSeq || e != api.OK {
		t.Errorf("Seq() = %d, %d; want %d", n, e, wantSeq)
	}
	return j
}

func checkAnswer(t *testing.T, what string, got api.Errno, want api.Errno) {
	t.Helper()
	if got != want {
		t.Errorf("%s = %d; want %d", what, got, want)
	}
}

func oneByte(name byte) []byte { return bytes.Repeat([]byte{name}, api.BlockSize) }

func TestP4_4NoSequenceNumberIsLeft(t *testing.T) {
	c := handmade(t, 7, api.MaxSeq-2)
	j := checkFound(t, c, 1099511627774)
	checkAnswer(t, "Append", j.Append([]api.Put{{At: 1, Data: oneByte('A')}}), api.OK)
	checkAnswer(t, "the last Append", j.Append(nil), api.OK)
	for range 2 {
		checkAnswer(t, "Append of none", j.Append(nil), api.ErrJournalSeq)
		checkAnswer(t, "Append", j.Append([]api.Put{{At: 1, Data: oneByte('B')}}), api.ErrJournalSeq)
		checkAnswer(t, "Append of a journal's block", j.Append([]api.Put{{At: 4, Data: oneByte('B')}}), api.ErrJournalAt)
		checkAnswer(t, "Append of no data", j.Append([]api.Put{{At: 3}}), api.ErrJournalData)
		var five []api.Put
		for at := 20; at < 25; at++ {
			five = append(five, api.Put{At: at, Data: oneByte('C')})
		}
		checkAnswer(t, "Append of too many", j.Append(five), api.ErrJournalLarge)
		if got, e := j.Read(1); e != api.OK || !bytes.Equal(got, oneByte('A')) {
			t.Errorf("Read(1) behind refused transactions = %d bytes, %d", len(got), e)
		}
		checkAnswer(t, "Flush", j.Flush(), api.OK)
		checkAnswer(t, "Checkpoint", j.Checkpoint(), api.OK)
		j = checkFound(t, c, 1099511627776)
	}
}

// No call leaves such logs, but a disk can hold any bytes: the calls end, and what no journal writes is not taken.
func TestP4_3OpenOfLogsThatNoCallLeaves(t *testing.T) {
	good := recordsOf([]api.Put{{At: 1, Data: oneByte('A')}})
	for name, log := range map[string][]record{
		"no last block":         {piece(nil), piece(oneByte('B')[:497])},
		"no whole put":          {last(oneByte('B')[:100])},
		"a journal's block":     recordsOf([]api.Put{{At: 19, Data: oneByte('B')}}),
		"no block of the disk":  recordsOf([]api.Put{{At: 40, Data: oneByte('B')}}),
		"a kind that is none":   {stranger{}},
		"pieces up to the end":  {piece(nil), piece(nil), piece(nil), piece(nil), piece(nil), piece(nil), piece(nil), piece(nil), piece(nil), piece(nil), piece(nil), piece(nil), piece(nil)},
		"one behind the middle": append([]record{piece(nil), stranger{}}, good...),
	} {
		c := handmade(t, 3, 10, append(append([]record{}, good...), log...)...)
		j := checkFound(t, c, 11)
		if got, e := j.Read(1); e != api.OK || !bytes.Equal(got, oneByte('A')) {
			t.Errorf("%s: Read(1) = %d bytes, %d", name, len(got), e)
		}
		checkAnswer(t, name+": Append", j.Append(nil), api.OK)
		checkFound(t, c, 12)
	}
}

type stranger struct{}

func (stranger) kind() int    { return 200 }
func (stranger) body() []byte { return nil }

func TestP4_3OpenOfHeadsThatNoCallLeaves(t *testing.T) {
	at := place{from: 4, blocks: 16}
	for name, r := range map[string]record{
		"another place":     head{place: place{from: 5, blocks: 16}},
		"another length":    head{place: place{from: 4, blocks: 17}},
		"too great a seq":   head{place: at, seq: api.MaxSeq + 1},
		"the greatest seq":  head{place: at, seq: 1<<63 - 1},
		"a blank":           blank{at},
		"a last":            last(head{place: at}.body()),
		"a piece":           piece(head{place: at}.body()),
		"a longer body":     longHead{at},
		"a kind of no name": stranger{},
	} {
		c := handmade(t, 3, 10)
		j := &Journal{Cache: c, place: at, life: 3}
		checkAnswer(t, "writeRecord", j.writeRecord(4, r), api.OK)
		if j, e := Open(c, 4, 16); j != nil || e != api.ErrJournalNone {
			t.Errorf("%s: Open = a journal: %v, %d", name, j != nil, e)
		}
	}
}

// longHead is a head with a byte too many.
type longHead struct{ place }

func (longHead) kind() int      { return kindHead }
func (h longHead) body() []byte { return append(head{place: h.place}.body(), 0) }

// Another journal's block is told from one that only looks so at its beginning.
func TestP4_3OpenTellsAnotherJournalsBlocks(t *testing.T) {
	for _, x := range []struct {
		r    record
		want api.Errno
	}{
		{head{place: place{from: 9, blocks: 16}}, api.ErrJournalNone},
		{blank{place{from: 9, blocks: 16}}, api.ErrJournalNone},
		{blank{place{from: 4, blocks: 16}}, api.OK},
	} {
		c := handmade(t, 3, 10)
		j := &Journal{Cache: c, place: place{from: 4, blocks: 16}}
		checkAnswer(t, "writeRecord", j.writeRecord(9, x.r), api.OK)
		_, e := Open(c, 4, 16)
		checkAnswer(t, "Open", e, x.want)
	}
	c := handmade(t, 3, 10)
	spoilt := oneByte(0)
	spoilt[0] = kindHead
	checkAnswer(t, "Write", c.Write(9, spoilt), api.OK)
	checkFound(t, c, 10)
}

// A log can be made that goes on where no number is left: no call brings such a transaction, so it is not found.
func TestP4_3OpenFindsNoMoreThanMaxSeqTransactions(t *testing.T) {
	one := recordsOf([]api.Put{{At: 1, Data: oneByte('A')}})
	two := recordsOf([]api.Put{{At: 1, Data: oneByte('B')}, {At: 20, Data: oneByte('B')}})
	for _, x := range []struct {
		ahead int
		seq   int
		name  byte
	}{
		{api.MaxSeq - 2, 1099511627776, 'B'},
		{api.MaxSeq - 1, 1099511627776, 'A'},
		{api.MaxSeq, 1099511627776, 0},
	} {
		c := handmade(t, 7, x.ahead, append(append([]record{}, one...), two...)...)
		for range 3 {
			j := checkFound(t, c, x.seq)
			if got, e := j.Read(1); e != api.OK || !bytes.Equal(got, oneByte(x.name)) {
				t.Errorf("%d ahead of the log: Read(1) = %d bytes, %d, others than wanted", x.ahead, len(got), e)
			}
			checkAnswer(t, "Append", j.Append(nil), api.ErrJournalSeq)
			checkAnswer(t, "Checkpoint", j.Checkpoint(), api.OK)
		}
	}
}

// So many lives are out of reach; but a head can be made that bears one of the last: it is a journal as any other.
func TestP4_3OpenOfTheLastLives(t *testing.T) {
	log := recordsOf([]api.Put{{At: 1, Data: oneByte('A')}})
	for _, life := range []int{1, api.MaxSeq / 2, api.MaxSeq - 3, api.MaxSeq - 2, api.MaxSeq - 1, api.MaxSeq} {
		c := handmade(t, life, 10, log...)
		for n := range 6 {
			j := checkFound(t, c, 11+n)
			for range n {
				checkAnswer(t, "Checkpoint", j.Checkpoint(), api.OK)
			}
			if got, e := j.Read(1); e != api.OK || !bytes.Equal(got, oneByte(byte('A'+n))) {
				t.Errorf("life %d: Read(1) = %d bytes, %d, others than wanted", life, len(got), e)
			}
			checkAnswer(t, "Append", j.Append([]api.Put{{At: 1, Data: oneByte(byte('B' + n))}}), api.OK)
			checkAnswer(t, "Flush", j.Flush(), api.OK)
		}
	}
}

// A head without a life is one behind which the log is being wiped: what stands in it is not asked.
func TestP4_3OpenOfAHeadWithoutALife(t *testing.T) {
	log := recordsOf([]api.Put{{At: 1, Data: oneByte('A')}})
	for _, life := range []int{noLife, noLife + 1, lastLife} {
		c := handmade(t, life, 10, log...)
		j := &Journal{Cache: c, place: place{from: 4, blocks: 16}, seq: 10}
		checkAnswer(t, "endLives", j.endLives(), api.OK)
		for range 3 {
			j := checkFound(t, c, 10)
			if got, e := j.Read(1); e != api.OK || !bytes.Equal(got, oneByte(0)) {
				t.Errorf("life %d: Read(1) = %d bytes, %d", life, len(got), e)
			}
		}
	}
}

// Lives begin in their order: where a block bears one that is still to come, no call has left the log.
func TestP4_3OpenOfLivesToCome(t *testing.T) {
	log := recordsOf([]api.Put{{At: 1, Data: oneByte('A')}})
	for _, x := range []struct {
		life int
		want api.Errno
	}{{1, api.OK}, {2, api.OK}, {3, api.OK}, {4, api.ErrJournalNone}, {5, api.ErrJournalNone}, {lastLife, api.ErrJournalNone}} {
		for first := range 12 {
			c := handmade(t, 3, 10)
			j := &Journal{Cache: c, place: place{from: 4, blocks: 16}, life: x.life}
			for i, r := range log {
				checkAnswer(t, "writeRecord", j.writeRecord(j.logBlock(first+i), r), api.OK)
			}
			_, e := Open(c, 4, 16)
			checkAnswer(t, "Open", e, x.want)
			if e == api.OK {
				checkFound(t, c, 10+boolTo(x.life == 3 && first == 0))
			}
		}
	}
}

func boolTo(holds bool) int {
	if holds {
		return 1
	}
	return 0
}

func TestP4_4ALogHoldsTheLargestTransaction(t *testing.T) {
	for blocks := 16; blocks <= api.MaxBlocks; blocks += 1 + blocks/7 {
		most, e := Most(blocks)
		need := (most*putSize + api.MaxBody - 1) / api.MaxBody
		if room := (place{blocks: blocks}).logRoom(); e != api.OK || need > room {
			t.Errorf("a journal of %d blocks: %d for %d puts, and room for %d; %d", blocks, need, most, room, e)
		}
	}
	if n := len(recordsOf(nil)); n != 1 {
		t.Errorf("a transaction of none takes %d blocks", n)
	}
}
