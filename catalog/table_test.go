package catalog

import (
	"bytes"
	"testing"

	"cistern/api"
	"cistern/txn"
)

// Lay lays a table as it is handed in, whatever it holds, for tests that need one that no calls come to, or not soon.
func Lay(t *txn.Txn, from int, next int, entries ...api.Entry) api.Errno {
	x := &table{next: next}
	copy(x.slots[:], entries)
	for number := range pages {
		if e := t.Write(from+number, x.page(number)); e != api.OK {
			return e
		}
	}
	return api.OK
}

func TestP8_1ThePagesHaveRoomForAllEntries(t *testing.T) {
	if headingSize+pageSlots*slotSize > api.BlockSize || pages*pageSlots < api.MaxVolumes {
		t.Errorf("%d pages of %d slots of %d bytes behind %d", pages, pageSlots, slotSize, headingSize)
	}
	if pages != Blocks() || pages < 1 || pages > 32 {
		t.Errorf("Blocks() = %d; there are %d pages", Blocks(), pages)
	}
}

// All that an entry may be at most, and at least, in every slot.
func TestP8_6EntriesAsTheyAreLaid(t *testing.T) {
	most := api.Entry{Name: "~234567890123456789012345678901", ID: api.MaxID, Size: api.MaxSize, Origin: api.MaxID, Kind: api.KindSnap, Partial: true, Root: api.MaxCapacity}
	least := api.Entry{Name: "a", ID: 1, Size: 1}
	for slot := range api.MaxVolumes {
		for _, entry := range []api.Entry{most, least, {}} {
			x := &table{next: api.MaxID + 1}
			for i := range x.slots {
				x.slots[i] = api.Entry{Name: "z", ID: 1000 + i, Size: 1, Root: i}
			}
			x.slots[slot] = entry
			got := &table{}
			for number := range pages {
				block := x.page(number)
				if len(block) != api.BlockSize {
					t.Fatalf("a page has %d bytes", len(block))
				}
				if !got.carry(&taking{bytesAt{block: block}}, number) {
					t.Fatalf("page %d is not found", number)
				}
				if !bytes.Equal(got.page(number), block) {
					t.Errorf("page %d is laid otherwise a second time", number)
				}
			}
			if *got != *x {
				t.Errorf("with %v in slot %d another table is found", entry, slot)
			}
		}
	}
}

func TestP8_3PagesOfOtherNumbersAreNone(t *testing.T) {
	x := &table{next: 5}
	for number := range pages {
		for other := range pages {
			if got := (&table{}).carry(&taking{bytesAt{block: x.page(other)}}, number); got != (other == number) {
				t.Errorf("page %d in the place of page %d: %v", other, number, got)
			}
		}
	}
}
