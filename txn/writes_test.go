package txn

import (
	"bytes"
	"testing"

	"cistern/api"
	"cistern/cache"
	"cistern/disk"
	"cistern/journal"
)

// none is a source without blocks.
type none struct{}

func (none) Read(int) ([]byte, api.Errno) { return nil, api.ErrJournalAt }

func block(name byte) []byte { return bytes.Repeat([]byte{name}, api.BlockSize) }

func checkSteps(t *testing.T, w *writes, want int) {
	t.Helper()
	if len(w.steps) != want {
		t.Errorf("%d steps are noted; want %d", len(w.steps), want)
	}
}

// Who writes a block a thousand times between two marks keeps it once for going back.
func TestP5_8WhatIsNotedForGoingBack(t *testing.T) {
	w := writesOver(none{})
	for n := range 1000 {
		w.lay(20+n%2, block(byte(n)))
	}
	checkSteps(t, w, 0)
	for mark := range 3 {
		w.mark()
		checkSteps(t, w, 2*mark)
		for n := range 1000 {
			w.lay(20+n%2, block(byte(n)))
		}
		checkSteps(t, w, 2*mark+2)
	}
	w.back(1)
	checkSteps(t, w, 2)
	for range 1000 {
		w.lay(22, block('A'))
	}
	checkSteps(t, w, 3)
	w.back(0)
	checkSteps(t, w, 0)
}

func TestP5_9ATransactionThatIsOverKeepsNoBlocks(t *testing.T) {
	d, _ := disk.New(40)
	c, _ := cache.New(d, 8)
	if e := journal.Format(c, 0, 20); e != api.OK {
		t.Fatalf("Format = %d", e)
	}
	j, e := journal.Open(c, 0, 20)
	if e != api.OK {
		t.Fatalf("journal.Open = %d", e)
	}
	s, e := Open(j)
	if e != api.OK {
		t.Fatalf("Open = %d", e)
	}
	for _, end := range []func(*Txn) api.Errno{(*Txn).Commit, (*Txn).Abort} {
		x, e := s.Begin()
		if e != api.OK || x.Write(20, block('A')) != api.OK || end(x) != api.OK {
			t.Fatalf("Begin() = %d, or what comes behind it is refused", e)
		}
		if x.writes != nil || x.from != nil || s.open != nil {
			t.Errorf("a transaction that is over is kept, or keeps its writes")
		}
	}
}
