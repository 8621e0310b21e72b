package goal_test

import (
	"fmt"
	"strings"
	"testing"

	"cistern/api"
	"cistern/goal"
)

// making gives clauses of so many new volumes, n0 and so on.
func making(count int) string {
	text := ""
	for i := range count {
		text += fmt.Sprintf("volume n%d size 1; ", i)
	}
	return text
}

// leaving gives clauses by which so many volumes of a crowded view go.
func leaving(count int) string {
	text := ""
	for i := range count {
		text += fmt.Sprintf("absent v%02d; ", 63-i)
	}
	return text
}

func TestP22_1Room(t *testing.T) {
	for count := 60; count <= 64; count++ {
		v := crowded(crowd(), count)
		checkSaid(t, v, making(64-count)+"exact; volume a size 40; volume k size 20; volume p size 40", "a 1 40 0 0 0..4 6..7 30..40")
		checkSaid(t, v, making(64-count)+"volume a size 40", "a 1 40 0 0 0..4 6..7 30..40")
		checkRefused(t, v, making(64-count)+"^volume m0 size 1", api.ErrCatalogFull)
		checkRefused(t, v, making(64-count)+"^volume m0 size 1; volume m1 size 1; volume m2 size 1", api.ErrCatalogFull)
		checkRefused(t, v, making(64-count)+"volume c size 50; keep 2 of a; ^volume m0 size 1; absent qq", api.ErrCatalogFull)
	}
	checkSaid(t, api.View{Capacity: 1, Next: 1}, making(64), "n0 1 1 0 0", "n63 64 1 0 0")
	checkRefused(t, api.View{Capacity: 1, Next: 1}, making(64)+"^volume n64 size 1", api.ErrCatalogFull)
	checkRefused(t, api.View{Capacity: 1, Next: 1}, making(64)+"^volume n64 size 1; "+strings.ReplaceAll(making(90), "n", "m"), api.ErrCatalogFull)
}

// All that goes has gone ahead of the making.
func TestP22_1RoomBehindWhatGoes(t *testing.T) {
	v := crowded(crowd(), 64)
	for gone := range 5 {
		for _, text := range []string{leaving(gone) + making(gone), making(gone) + leaving(gone)} {
			checkSaid(t, v, text+"absent qq", "a 1 40 0 0 0..4 6..7 30..40")
			checkRefused(t, v, text+"^volume m0 size 1; volume m1 size 1", api.ErrCatalogFull)
		}
		checkRefused(t, v, making(gone)+"^volume m0 size 1; volume m1 size 1; "+leaving(gone), api.ErrCatalogFull)
	}
	// By keep, by exact, and what goes by two clauses goes once.
	checkSaid(t, v, "keep 0 of a; absent k; "+making(3), "no l", "no m", "no k", "n2 1002 1 0 0")
	checkRefused(t, v, "keep 0 of a; absent k; "+making(3)+"^volume m0 size 1", api.ErrCatalogFull)
	checkRefused(t, v, "keep 0 of a; absent k; absent k; absent m; absent l; "+making(3)+"^volume m0 size 1", api.ErrCatalogFull)
	checkSaid(t, v, "exact; volume a size 40; volume k size 20; volume p size 40; "+making(57), "no v20", "n56 1056 1 0 0")
	checkRefused(t, v, "exact; volume a size 40; volume k size 20; volume p size 40; "+making(57)+"^volume m0 size 1", api.ErrCatalogFull)
	// A fresh snapshot takes room, unless it goes.
	fewer := crowded(crowd(), 62)
	checkRefused(t, fewer, "snapshot of e; volume m0 size 1; ^volume m1 size 1", api.ErrCatalogFull)
	checkRefused(t, fewer, "volume m0 size 1; ^volume m1 size 1; snapshot of e", api.ErrCatalogFull)
	checkSaid(t, fewer, "snapshot of e; volume m0 size 1; volume m1 size 1; keep 0 of e", "m1 1002 1 0 0", "no e@1000")
	checkSaid(t, fewer, "snapshot of e; volume m0 size 1; volume m1 size 1; absent e@1000", "m1 1002 1 0 0", "no e@1000")
}

// It is told at the volume with which there are more, in the order of making, not of the list.
func TestP22_1RoomInTheOrderOfMaking(t *testing.T) {
	v := crowded(crowd(), 63)
	checkRefused(t, v, "^volume x from y size 1; volume y size 1", api.ErrCatalogFull)
	checkRefused(t, v, "volume x size 1; ^volume y from x size 1", api.ErrCatalogFull)
	checkRefused(t, v, "volume x from z size 1; volume y size 1; ^volume z size 1", api.ErrCatalogFull)
	checkRefused(t, v, "^volume x from y size 1; volume y size 1; volume z size 1", api.ErrCatalogFull)
	checkRefused(t, v, "^volume x from y size 1; volume w from y size 1; volume y size 1", api.ErrCatalogFull)
	// Volumes that are there are not made.
	checkRefused(t, v, "volume a size 40; volume x size 1; volume e size 40; ^volume y size 1", api.ErrCatalogFull)
}

// What else fails comes ahead: the number that is not left, a circle, a child.
func TestP22_1RoomComesLast(t *testing.T) {
	v := crowded(crowd(), 64)
	checkRefused(t, v, "volume x size 1; volume y size 1; ^absent p", api.ErrGoalChildren)
	checkRefused(t, v, "volume x size 1; ^keep 1 of z", api.ErrGoalUnknown)
	checkRefused(t, v, "volume x size 1; ^volume y from y size 1", api.ErrGoalCircle)
	checkRefused(t, next(v, 1<<30), "volume x size 1; ^volume y size 1", api.ErrCatalogIDs)
	checkRefused(t, next(v, 1<<30), "^volume x size 1; absent qq", api.ErrCatalogFull)
	checkRefused(t, v, "^snapshot of a; volume x size 1", api.ErrCatalogFull)
}

// Many clauses are not gone through for each of them.
func TestP22_1ManyClauses(t *testing.T) {
	const count = 100000
	var cs []api.Clause
	add := func(c api.Clause) {
		c.At = 10 + len(cs)
		cs = append(cs, c)
	}
	name := func(first string, i int) string { return fmt.Sprintf("%s%d", first, i) }
	for i := range count {
		add(api.Clause{Kind: api.ClauseVolume, Name: name("n", i), Other: name("n", i+1), Number: 1 + i%9, Thick: i%2 == 0})
	}
	add(api.Clause{Kind: api.ClauseVolume, Name: name("n", count), Number: 5})
	for i := range count {
		add(api.Clause{Kind: api.ClauseKeep, Other: name("n", i), Number: 1})
		add(api.Clause{Kind: api.ClauseAbsent, Name: name("m", i)})
		add(api.Clause{Kind: api.ClauseExact})
	}
	// They are made from the last one on, and what was there has gone: the 65th is one too many.
	if v, at, e := goal.Goal(cs, three()); told(v) != zero || at != 10+count-64 || e != api.ErrCatalogFull {
		t.Errorf("Goal = %s, %d, %d", told(v), at, e)
	}
	for i := range count {
		add(api.Clause{Kind: api.ClauseRename, Name: name("o", i), Other: name("o", i+1)})
	}
	if v, at, e := goal.Goal(cs, three()); told(v) != zero || at != 10+4*count+1 || e != api.ErrGoalRename {
		t.Errorf("Goal = %s, %d, %d", told(v), at, e)
	}
}

// comb gives a view of so many volumes that map every second block of their size.
func comb(count int, size int) api.View {
	v := api.View{Capacity: 262144, Next: count + 1}
	for i := range count {
		x := api.Volume{Name: fmt.Sprintf("v%02d", i), ID: i + 1, Size: size}
		for l := 0; l < size; l += 2 {
			x.Mapped = append(x.Mapped, api.Range{From: l, To: l + 1})
		}
		v.Volumes = append(v.Volumes, x)
	}
	return v
}

// A great view: many clones of a volume of as many ranges as there may be, most of which go or are cut.
func TestP22_1AGreatView(t *testing.T) {
	v := comb(1, 262144)
	text := "volume v00 size 3; "
	for i := range 60 {
		text += fmt.Sprintf("volume w%02d from v00 size %d; ", i, 1+4000*i)
	}
	got, at, e := goal.Goal(plan(t, text+"snapshot of v00; snapshot of v00; keep 1 of v00"), v)
	if len(got.Volumes) != 62 || at != 0 || e != api.OK {
		t.Fatalf("Goal gives %d volumes, %d, %d", len(got.Volumes), at, e)
	}
	if n := len(got.Volumes[1].Mapped); got.Volumes[1].Name != "v00@3" || n != 131072 {
		t.Errorf("%s has %d ranges", got.Volumes[1].Name, n)
	}
	for i, x := range got.Volumes[2:] {
		if x.Size != 1+4000*i || len(x.Mapped) != 1+2000*i {
			t.Errorf("%s has %d ranges", x.Name, len(x.Mapped))
		}
	}
}
