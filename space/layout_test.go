package space

import (
	"testing"

	"cistern/api"
)

// The entries of a page of the index lie beside one another, and take what a table can have alone.
func TestP6_4EntriesOfTheIndex(t *testing.T) {
	const most = 1<<(8*turnsWidth) - 1
	page := place{room: api.MaxCapacity}.blank(0)
	for i := range indexSize {
		if !putEntry(page, i, groupSize-i, most-i) {
			t.Errorf("entry %d is refused", i)
		}
	}
	for i, c := range []struct{ taken, turns int }{{-1, 0}, {1 << 16, 0}, {0, -1}, {0, most + 1}} {
		if putEntry(page, i, c.taken, c.turns) {
			t.Errorf("an entry of %d and %d is taken", c.taken, c.turns)
		}
	}
	for i := range indexSize {
		if takenAt(page, i) != groupSize-i || turnsAt(page, i) != most-i {
			t.Errorf("entry %d is %d and %d", i, takenAt(page, i), turnsAt(page, i))
		}
	}
	if !(place{room: api.MaxCapacity}).isPage(page, 0) {
		t.Errorf("the entries have written over the heading")
	}
}

// A table that is laid over another has another life, the first one again behind the last; it is never unborn.
func TestP6_2Lives(t *testing.T) {
	p := place{room: 10}
	for _, c := range []struct{ old, want int }{{unborn, 1}, {1, 2}, {2, 3}, {lastLife - 1, lastLife}, {lastLife, 1}} {
		page := p.blank(0)
		head{size: 7, life: c.old}.put(page)
		if h := headOf(page); h.size != 7 || h.life != c.old || !p.isPage(page, 0) {
			t.Errorf("the head is %v; want size 7, life %d", h, c.old)
		}
		if got := lifeBehind(c.old); got != c.want {
			t.Errorf("the life behind %d is %d; want %d", c.old, got, c.want)
		}
	}
}
