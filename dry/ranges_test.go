package dry_test

import (
	"fmt"
	"strings"
	"testing"

	"cistern/api"
)

// Ranges that are joined and cut, in all the ways that they can lie to one another.
func TestP21_1RangesJoinedAndCut(t *testing.T) {
	v := one(40, ranges(5, 10, 15, 20, 25, 30)...)
	for _, c := range []struct {
		o    api.Op
		want string
	}{
		{write("a", 0), "0..1 5..10 15..20 25..30"},
		{write("a", 4), "4..10 15..20 25..30"},
		{write("a", 5), "5..10 15..20 25..30"},
		{write("a", 9), "5..10 15..20 25..30"},
		{write("a", 10), "5..11 15..20 25..30"},
		{write("a", 12), "5..10 12..13 15..20 25..30"},
		{write("a", 30), "5..10 15..20 25..31"},
		{write("a", 39), "5..10 15..20 25..30 39..40"},
		{fill("a", 0, 4), "0..4 5..10 15..20 25..30"},
		{fill("a", 0, 5), "0..10 15..20 25..30"},
		{fill("a", 10, 15), "5..20 25..30"},
		{fill("a", 11, 14), "5..10 11..14 15..20 25..30"},
		{fill("a", 10, 14), "5..14 15..20 25..30"},
		{fill("a", 11, 15), "5..10 11..20 25..30"},
		{fill("a", 8, 17), "5..20 25..30"},
		{fill("a", 6, 9), "5..10 15..20 25..30"},
		{fill("a", 12, 23), "5..10 12..23 25..30"},
		{fill("a", 4, 31), "4..31"},
		{fill("a", 5, 30), "5..30"},
		{fill("a", 10, 25), "5..30"},
		{fill("a", 8, 40), "5..40"},
		{fill("a", 12, 12), "5..10 15..20 25..30"},
		{fill("a", 7, 7), "5..10 15..20 25..30"},
		{fill("a", 10, 10), "5..10 15..20 25..30"},
		{discard("a", 0, 5), "5..10 15..20 25..30"},
		{discard("a", 0, 6), "6..10 15..20 25..30"},
		{discard("a", 5, 6), "6..10 15..20 25..30"},
		{discard("a", 9, 10), "5..9 15..20 25..30"},
		{discard("a", 9, 15), "5..9 15..20 25..30"},
		{discard("a", 10, 15), "5..10 15..20 25..30"},
		{discard("a", 10, 16), "5..10 16..20 25..30"},
		{discard("a", 7, 8), "5..7 8..10 15..20 25..30"},
		{discard("a", 17, 18), "5..10 15..17 18..20 25..30"},
		{discard("a", 7, 7), "5..10 15..20 25..30"},
		{discard("a", 15, 20), "5..10 25..30"},
		{discard("a", 14, 21), "5..10 25..30"},
		{discard("a", 7, 28), "5..7 28..30"},
		{discard("a", 5, 30), ""},
		{discard("a", 0, 40), ""},
		{discard("a", 30, 40), "5..10 15..20 25..30"},
		{resize("a", 1), ""},
		{resize("a", 5), ""},
		{resize("a", 6), "5..6"},
		{resize("a", 10), "5..10"},
		{resize("a", 15), "5..10"},
		{resize("a", 17), "5..10 15..17"},
		{resize("a", 30), "5..10 15..20 25..30"},
		{resize("a", 29), "5..10 15..20 25..29"},
	} {
		size := 40
		if c.o.Kind == api.OpResize {
			size = c.o.To
		}
		checkDo(t, v, c.o, strings.TrimSpace(fmt.Sprintf("50 7 9; a 8 %d 0 0 %s", size, c.want)))
	}
}

// Every set of mapped blocks of a small volume, with every operation over blocks.
func TestP21_1AllSmallMaps(t *testing.T) {
	const size = 7
	var ops []api.Op
	for from := range size + 1 {
		for to := from; to <= size; to++ {
			ops = append(ops, discard("a", from, to), fill("a", from, to))
		}
		ops = append(ops, resize("a", from+1), write("a", min(from, size-1)))
	}
	for set := range 1 << size {
		v := one(size, rangesOf(set)...)
		for _, o := range ops {
			if _, e, _ := checkAsModel(t, v, o); e != api.OK {
				t.Errorf("%s is refused", toldOp(o))
			}
		}
	}
}

// rangesOf gives the ranges of the bits of a number.
func rangesOf(set int) []api.Range {
	m := &model{volumes: map[string]*volume{"a": {has: map[int]bool{}}}}
	for l := range 30 {
		if set>>l&1 == 1 {
			m.volumes["a"].has[l] = true
		}
	}
	return m.view().Volumes[0].Mapped
}

// A restore from every small volume to every other: Size and Mapped are the other's, greater or smaller.
func TestP21_1RestoreFromAllSmallMaps(t *testing.T) {
	for size := 1; size <= 4; size++ {
		for set := range 1 << size {
			v := one(3, ranges(0, 1, 2, 3)...)
			v.Volumes = append(v.Volumes, api.Volume{Name: "b", ID: 3, Size: size, Kind: api.KindSnap, Mapped: rangesOf(set)})
			checkAsModel(t, v, restore("a", "b"))
			checkAsModel(t, v, restore("b", "a"))
			checkAsModel(t, v, restore("b", "b"))
			checkAsModel(t, v, snap("c", "b"))
			checkAsModel(t, v, clone("c", "b"))
		}
	}
}
