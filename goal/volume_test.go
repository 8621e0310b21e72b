package goal_test

import (
	"fmt"
	"slices"
	"strings"
	"testing"

	"cistern/api"
	"cistern/goal"
)

func TestP22_1NewVolumes(t *testing.T) {
	v := api.View{Capacity: 9, Free: 4, Next: 7}
	checkGoal(t, v, "volume a size 3", "9 4 8; a 7 3 0 0")
	checkGoal(t, v, "volume a size 3 thick", "9 4 8; a 7 3 0 0 0..3")
	checkGoal(t, v, "volume b size 1; volume a size 262144", "9 4 9; a 8 262144 0 0; b 7 1 0 0")
	checkGoal(t, v, "volume b size 1 thick; volume ~ size 262144 thick", "9 4 9; b 7 1 0 0 0..1; ~ 8 262144 0 0 0..262144")
	checkGoal(t, next(v, 1<<30), "volume a size 3", "9 4 1073741825; a 1073741824 3 0 0")
	// Names byte by byte, a beginning of a name first.
	checkGoal(t, v, "volume b size 1; volume a~ size 1; volume a size 1; volume a- size 1; volume aa size 1; volume a0 size 1; volume ~ size 1",
		"9 4 14; a 9 1 0 0; a- 10 1 0 0; a0 12 1 0 0; aa 11 1 0 0; a~ 8 1 0 0; b 7 1 0 0; ~ 13 1 0 0")
}

func TestP22_1NewVolumesFromOthers(t *testing.T) {
	v := crowd()
	checkSaid(t, v, "volume n from a size 40", "100 60 21", "n 20 40 1 0 0..4 6..7 30..40", "a 1 40 0 0 0..4 6..7 30..40")
	checkSaid(t, v, "volume n from l size 5", "n 20 5 3 0 0..3")
	checkSaid(t, v, "volume n from l size 500", "n 20 500 3 0 0..3")
	checkSaid(t, v, "volume n from l size 2 thick", "n 20 2 3 0 0..2")
	checkSaid(t, v, "volume n from e size 6 thick", "n 20 6 9 0 0..6")
	// From a fresh snapshot, that goes or stays.
	checkSaid(t, v, "snapshot of e; volume n from e@20 size 6", "100 60 22", "e@20 20 40 9 1", "n 21 6 20 0")
	checkRefused(t, v, "volume n from e@20 size 6; ^volume o from e@21 size 6; snapshot of e", api.ErrGoalUnknown)
	// Of what the source was ahead of its own clause, wherever that stands.
	for _, text := range []string{"volume n from a size 50; volume a size 3", "volume a size 3; volume n from a size 50"} {
		checkSaid(t, v, text, "a 1 3 0 0 0..3", "n 20 50 1 0 0..4 6..7 30..40")
	}
	for _, text := range []string{"volume n from a size 50; volume a size 60 thick", "volume a size 60 thick; volume n from a size 50"} {
		checkSaid(t, v, text, "a 1 60 0 0 0..60", "n 20 50 1 0 0..4 6..7 30..40")
	}
	// Of a new one too: nothing of it is mapped.
	checkSaid(t, v, "volume n size 5 thick; volume o from n size 9", "n 20 5 0 0 0..5", "o 21 9 20 0")
	checkSaid(t, v, "volume n size 5; volume o from n size 9 thick; volume u from o size 3", "n 20 5 0 0", "o 21 9 20 0 0..9", "u 22 3 21 0")
	checkSaid(t, v, "volume n from a size 2; volume o from n size 50", "n 20 2 1 0 0..2", "o 21 50 20 0 0..4 6..7 30..40")
}

// Of those that can be made the first in the list is the next, each time from the beginning.
func TestP22_1TheOrderOfMaking(t *testing.T) {
	for text, want := range map[string]string{
		"volume a size 1; volume b size 1; volume c size 1":                                                 "a b c",
		"volume c size 1; volume b size 1; volume a size 1":                                                 "c b a",
		"volume a from b size 1; volume b size 1; volume c size 1":                                          "b a c",
		"volume a from c size 1; volume b size 1; volume c size 1":                                          "b c a",
		"volume a from b size 1; volume b from c size 1; volume c size 1; volume d size 1":                  "c b a d",
		"volume a from d size 1; volume b from c size 1; volume c size 1; volume d size 1":                  "c b d a",
		"volume b from c size 1; volume a from b size 1; volume c size 1; volume d size 1":                  "c b a d",
		"volume d size 1; volume a from d size 1; volume e from d size 1; volume b from a size 1":           "d a e b",
		"volume e from d size 1; volume b from a size 1; volume a from d size 1; volume d size 1":           "d e a b",
		"volume x from z size 1; volume y from z size 1; volume z from w size 1; volume w size 1":           "w z x y",
		"volume y from w size 1; volume x from z size 1; volume w size 1; volume v size 1; volume z size 1": "w y v z x",
	} {
		checkMade(t, api.View{Capacity: 9, Next: 6}, text, want, 6)
		checkMade(t, crowd(), strings.NewReplacer("volume ", "volume 1", "from ", "from 1").Replace(text), "1"+strings.ReplaceAll(want, " ", " 1"), 20)
	}
	// Behind the fresh snapshots, wherever these stand.
	checkSaid(t, example(), "volume b size 1; snapshot of a; volume c size 1; snapshot of s",
		"100 80 7", "a@3 3 10 1 1 0..4", "b 5 1 0 0", "c 6 1 0 0", "s@4 4 10 2 1 0..3")
}

// checkMade holds in which order a plan's volumes are made: the first one has that number.
func checkMade(t *testing.T, v api.View, text string, want string, id int) {
	t.Helper()
	got, at, e := goal.Goal(plan(t, text), v)
	var made []api.Volume
	for _, x := range got.Volumes {
		if x.ID >= id {
			made = append(made, x)
		}
	}
	slices.SortFunc(made, func(a api.Volume, b api.Volume) int { return a.ID - b.ID })
	var names []string
	for i, x := range made {
		names = append(names, x.Name)
		if x.ID != id+i {
			t.Errorf("%s has the number %d", x.Name, x.ID)
		}
	}
	if strings.Join(names, " ") != want || got.Next != id+len(made) || at != 0 || e != api.OK {
		t.Errorf("Goal(%s) makes %q, next %d, %d, %d; want %s", text, names, got.Next, at, e, want)
	}
	checkAsModel(t, plan(t, text), v)
}

func TestP22_1Circles(t *testing.T) {
	v := crowd()
	checkRefused(t, v, "^volume x from x size 1", api.ErrGoalCircle)
	checkRefused(t, v, "^volume y from x size 1; volume x from y size 1", api.ErrGoalCircle)
	checkRefused(t, v, "^volume z from x size 1; volume x from y size 1; volume y from z size 1", api.ErrGoalCircle)
	// The first of those that cannot be made, whether it is in the circle or hangs on it.
	checkRefused(t, v, "volume n size 1; ^volume x from x size 1; volume o size 1; volume y from y size 1", api.ErrGoalCircle)
	checkRefused(t, v, "^volume w from x size 1; volume x from y size 1; volume y from x size 1", api.ErrGoalCircle)
	checkRefused(t, v, "volume n from o size 1; volume o from a size 1; ^volume w from x size 1; volume x from y size 1; volume y from x size 1", api.ErrGoalCircle)
	checkRefused(t, v, "volume a size 1; ^volume x from x size 1", api.ErrGoalCircle)
	// What is against any clause comes ahead of that, and so does the number that is not left.
	checkRefused(t, v, "volume y from x size 1; volume x from y size 1; ^volume n size 0", api.ErrGoalSize)
	checkRefused(t, next(v, 1<<30+1), "volume y from x size 1; volume x from y size 1; ^volume n size 1", api.ErrCatalogIDs)
	checkRefused(t, next(v, 1<<30+1), "^volume y from x size 1; volume x from y size 1", api.ErrGoalCircle)
}

func TestP22_1VolumesWhereNoNumberIsLeft(t *testing.T) {
	last, none := next(crowd(), 1<<30), next(crowd(), 1<<30+1)
	checkSaid(t, last, "volume n size 1", "100 60 1073741825", "n 1073741824 1 0 0")
	checkSaid(t, last, "volume n from e size 1", "n 1073741824 1 9 0")
	checkRefused(t, last, "volume n size 1; ^volume o size 1", api.ErrCatalogIDs)
	checkRefused(t, last, "^volume n from o size 1; volume o size 1", api.ErrCatalogIDs)
	checkRefused(t, last, "^volume n size 1; snapshot of a", api.ErrCatalogIDs)
	checkRefused(t, none, "^volume n size 1", api.ErrCatalogIDs)
	checkRefused(t, none, "volume a size 1; ^volume n from e size 1; volume o size 1", api.ErrCatalogIDs)
	checkSaid(t, none, "volume a size 1; volume e size 2 thick; absent f", "100 60 1073741825", "a 1 1 0 0 0..1", "e 9 2 0 0 0..2", "no f")
}

// Sizes of a volume that is there, below, within, between and above its ranges.
func TestP22_1SizesOfWhatIsThere(t *testing.T) {
	mapped := map[int]string{1: " 0..1", 3: " 0..3", 4: " 0..4", 5: " 0..4", 6: " 0..4", 7: " 0..4 6..7", 29: " 0..4 6..7", 30: " 0..4 6..7", 31: " 0..4 6..7 30..31", 39: " 0..4 6..7 30..39"}
	for size, want := range mapped {
		checkSaid(t, crowd(), fmt.Sprintf("volume a size %d", size), fmt.Sprintf("a 1 %d 0 0", size)+want)
		checkSaid(t, crowd(), fmt.Sprintf("volume a size %d thick", size), fmt.Sprintf("a 1 %d 0 0 0..%d", size, size))
	}
	for _, size := range []int{40, 41, 64, 4096, 262144} {
		checkSaid(t, crowd(), fmt.Sprintf("volume a size %d", size), fmt.Sprintf("a 1 %d 0 0 0..4 6..7 30..40", size))
		checkSaid(t, crowd(), fmt.Sprintf("volume a size %d thick", size), fmt.Sprintf("a 1 %d 0 0 0..%d", size, size))
		checkSaid(t, crowd(), fmt.Sprintf("volume e size %d", size), fmt.Sprintf("e 9 %d 0 0", size))
	}
	checkSaid(t, crowd(), "volume e size 1", "e 9 1 0 0")
	// A size that is as it is, and one that comes to be, change nothing else of a volume.
	checkSaid(t, crowd(), "volume c from a size 50", "c 4 50 1 0 0..1 45..50")
	checkSaid(t, crowd(), "volume c from a size 46", "c 4 46 1 0 0..1 45..46")
	checkSaid(t, crowd(), "volume c size 45", "c 4 45 1 0 0..1")
	checkSaid(t, crowd(), "volume k from l size 20 thick", "k 12 20 3 0 0..20")
	checkSaid(t, crowd(), "volume a size 5; volume c from a size 60; volume e size 2 thick", "a 1 5 0 0 0..4", "c 4 60 1 0 0..1 45..50", "e 9 2 0 0 0..2", "l 3 20 1 1 0..3")
}

func TestP22_1WhichSizesThereMayBe(t *testing.T) {
	for _, name := range []string{"n", "a", "n from a", "n from o", "p", "l", "a from z", "l from z", "n from z", "n from p", "p from a", "f"} {
		for _, size := range []int{0, 262145, 262146, 1 << 40} {
			checkRefused(t, crowd(), fmt.Sprintf("^volume %s size %d; volume o size 1", name, size), api.ErrGoalSize)
			checkRefused(t, crowd(), fmt.Sprintf("volume o size 1; ^volume %s size %d thick", name, size), api.ErrGoalSize)
		}
	}
}

func TestP22_1VolumesThatAreWantedTwice(t *testing.T) {
	checkRefused(t, crowd(), "volume a size 3; ^volume a size 3", api.ErrGoalTwice)
	checkRefused(t, crowd(), "volume a size 3; ^volume a size 0", api.ErrGoalTwice)
	checkRefused(t, crowd(), "volume n size 3; volume o size 3; ^volume n from z size 3; volume o size 3", api.ErrGoalTwice)
	checkRefused(t, crowd(), "volume n from a size 3; ^volume n from e size 4 thick", api.ErrGoalTwice)
	// Clause by clause: what is against the first one comes ahead of that.
	checkRefused(t, crowd(), "^volume a size 0; volume a size 3", api.ErrGoalSize)
	checkRefused(t, crowd(), "^volume l size 3; volume l size 3", api.ErrGoalKind)
	checkRefused(t, crowd(), "volume a size 3; ^volume n from z size 3; volume a size 3", api.ErrGoalUnknown)
}

func TestP22_1SnapshotsWhereVolumesAreWanted(t *testing.T) {
	for _, text := range []string{"^volume l size 20", "^volume l size 20 thick", "^volume l from a size 20", "^volume l from z size 20", "^volume l from e size 20", "^volume r size 3", "^volume r size 4", "^volume r from n size 3; volume n size 1"} {
		checkRefused(t, crowd(), text, api.ErrGoalKind)
	}
	checkRefused(t, crowd(), "snapshot of e; ^volume e@20 size 40", api.ErrGoalKind)
	checkRefused(t, crowd(), "snapshot of e; ^volume e@20 from e size 40", api.ErrGoalKind)
}

// A volume that is there, with a source: one that is not there, one that it does not come from.
func TestP22_1SourcesOfWhatIsThere(t *testing.T) {
	v := crowd()
	checkRefused(t, v, "^volume c from z size 50", api.ErrGoalUnknown)
	checkRefused(t, v, "^volume p from z size 41", api.ErrGoalUnknown)
	checkRefused(t, v, "volume n size 1; ^volume c from z size 50; rename a to b", api.ErrGoalUnknown)
	for _, source := range []string{"c", "e", "l", "p", "k", "r"} {
		checkRefused(t, v, "^volume c from "+source+" size 50", api.ErrGoalOrigin)
	}
	checkRefused(t, v, "^volume a from a size 40", api.ErrGoalOrigin)
	checkRefused(t, v, "^volume p from a size 41", api.ErrGoalOrigin)
	checkRefused(t, v, "^volume c from n size 50; volume n size 1", api.ErrGoalOrigin)
	checkRefused(t, v, "volume n size 1; ^volume c from n size 50", api.ErrGoalOrigin)
	checkRefused(t, v, "volume n size 1; ^volume p from n size 41", api.ErrGoalOrigin)
	checkRefused(t, v, "snapshot of a; ^volume c from a@20 size 50", api.ErrGoalOrigin)
	// By the names behind the renames, and the numbers that these have.
	checkSaid(t, v, "rename a to b; volume c from b size 50", "c 4 50 1 0 0..1 45..50", "b 1 40 0 0 0..4 6..7 30..40")
	checkRefused(t, v, "rename a to b; ^volume c from a size 50", api.ErrGoalUnknown)
	checkRefused(t, v, "rename a to e; rename e to a; ^volume c from a size 50", api.ErrGoalOrigin)
	checkSaid(t, v, "rename a to e; rename e to a; volume c from e size 50", "c 4 50 1 0 0..1 45..50")
	// A source may be Partial, where nothing is made of it.
	gone := crowd()
	gone.Volumes[0].Partial = true
	checkSaid(t, gone, "volume c from a size 3", "c 4 3 1 0 0..1")
	checkSaid(t, gone, "volume c from a size 3; volume a size 40", "c 4 3 1 0 0..1")
}

func TestP22_1SourcesOfNewVolumes(t *testing.T) {
	checkRefused(t, crowd(), "^volume n from z size 1", api.ErrGoalUnknown)
	checkRefused(t, crowd(), "volume o size 1; ^volume n from z size 1; absent z; keep 1 of a", api.ErrGoalUnknown)
	checkRefused(t, crowd(), "^volume n from z size 1; volume o from n size 0", api.ErrGoalUnknown)
	checkRefused(t, crowd(), "volume n from z size 1; ^volume z from y size 1", api.ErrGoalUnknown)
	checkRefused(t, crowd(), "^volume n from p size 1", api.ErrGoalPartial)
	checkRefused(t, crowd(), "^volume n from q size 3", api.ErrGoalPartial)
	checkRefused(t, crowd(), "^volume n from r size 3 thick", api.ErrGoalPartial)
	checkRefused(t, crowd(), "^volume n from p size 1; volume p size 40", api.ErrGoalPartial)
	checkRefused(t, crowd(), "volume p size 40; ^volume n from p size 1", api.ErrGoalPartial)
	checkRefused(t, crowd(), "volume n from o size 1; ^volume o from p size 1", api.ErrGoalPartial)
	// One that goes is a source as well.
	checkSaid(t, crowd(), "volume n from e size 1; volume o from n size 1", "n 20 1 9 0", "o 21 1 20 0")
	checkRefused(t, crowd(), "volume n from e size 1; ^absent e", api.ErrGoalChildren)
}

func TestP22_1VolumesThatArePartial(t *testing.T) {
	v := crowd()
	checkSaid(t, v, "volume p size 40", "p 5 40 0 0 0..2 half")
	checkSaid(t, v, "volume q size 3", "q 11 3 0 0 0..3 half")
	checkSaid(t, v, "volume q size 3 thick; volume p size 40", "q 11 3 0 0 0..3 half", "p 5 40 0 0 0..2 half")
	for _, text := range []string{"^volume p size 40 thick", "^volume p size 39", "^volume p size 41", "^volume p size 1", "^volume p size 2 thick", "^volume p size 41 thick", "^volume q size 4", "^volume q size 2", "^volume q size 2 thick", "^volume q size 4 thick"} {
		checkRefused(t, v, text, api.ErrGoalPartial)
	}
	// One that maps all but the first, the last or a middle block.
	for told, mapped := range map[string][]api.Range{" 1..3": ranges(1, 3), " 0..2": ranges(0, 2), " 0..1 2..3": ranges(0, 1, 2, 3), "": nil} {
		w := crowd()
		w.Volumes[8].Mapped = mapped
		checkRefused(t, w, "^volume q size 3 thick", api.ErrGoalPartial)
		checkSaid(t, w, "volume q size 3", "q 11 3 0 0"+told+" half")
	}
	// One with a source.
	w := crowd()
	w.Volumes[1].Partial = true
	checkSaid(t, w, "volume c from a size 50", "c 4 50 1 0 0..1 45..50 half")
	checkRefused(t, w, "^volume c from a size 49", api.ErrGoalPartial)
	checkRefused(t, w, "^volume c from a size 50 thick", api.ErrGoalPartial)
	checkRefused(t, w, "^volume c from e size 49", api.ErrGoalOrigin)
}
