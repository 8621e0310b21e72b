package goal_test

import (
	"fmt"
	"strings"
	"testing"

	"cistern/api"
)

func TestP22_2Fresh(t *testing.T) {
	checkFresh(t, example(), "snapshot of a", "a@3")
	checkFresh(t, example(), "snapshot of s; snapshot of a; snapshot of s", "s@3", "a@4", "s@5")
	checkFresh(t, example(), "volume n size 1; snapshot of a; exact; snapshot of a", "a@3", "a@4")
	checkFresh(t, example(), "rename a to b; snapshot of b", "b@3")
	checkFresh(t, example(), "snapshot of b; rename a to b", "b@3")
	checkFresh(t, example(), "rename a to s; rename s to a; snapshot of a", "a@3")
	checkFresh(t, example(), "snapshot of a; snapshot of a@3; snapshot of a@3@4", "a@3", "a@3@4", "a@3@4@5")
	checkFresh(t, next(example(), 1<<30), "snapshot of a", "a@1073741824")
	checkFresh(t, example(), "rename a to b")
	// What fails behind the first two steps is not looked at.
	checkFresh(t, example(), "snapshot of a; volume b size 0; keep 1 of z; absent a; exact", "a@3")
	checkFresh(t, example(), "volume a size 3; absent a; volume x from y size 1; volume x size 1")
	checkFresh(t, next(example(), 1<<30+1), "volume b size 1")
	// A snapshot that goes is fresh too.
	checkFresh(t, example(), "snapshot of a; keep 0 of a; absent s", "a@3")
}

func TestP22_2FreshIsRefused(t *testing.T) {
	checkNoFresh(t, example(), "^rename a to s", api.ErrGoalRename)
	checkNoFresh(t, example(), "snapshot of a; ^rename z to y", api.ErrGoalRename)
	checkNoFresh(t, example(), "rename a to b; ^rename a to c", api.ErrGoalTwice)
	checkNoFresh(t, three(), "^rename p to q", api.ErrGoalPartial)
	checkNoFresh(t, example(), "snapshot of a; ^snapshot of z", api.ErrGoalUnknown)
	checkNoFresh(t, example(), "snapshot of a; rename z to a; ^snapshot of z", api.ErrGoalUnknown)
	checkNoFresh(t, three(), "snapshot of a; ^snapshot of p", api.ErrGoalPartial)
}

func TestP22_1FreshSnapshots(t *testing.T) {
	checkGoal(t, example(), "snapshot of a", "100 80 4; a 1 10 0 0 0..4; a@3 3 10 1 1 0..4; s 2 10 1 1 0..3")
	checkGoal(t, example(), "snapshot of s", "100 80 4; a 1 10 0 0 0..4; s 2 10 1 1 0..3; s@3 3 10 2 1 0..3")
	checkGoal(t, example(), "snapshot of a; snapshot of a", "100 80 5; a 1 10 0 0 0..4; a@3 3 10 1 1 0..4; a@4 4 10 1 1 0..4; s 2 10 1 1 0..3")
	checkGoal(t, example(), "snapshot of a; snapshot of a@3; absent s", "100 80 5; a 1 10 0 0 0..4; a@3 3 10 1 1 0..4; a@3@4 4 10 3 1 0..4")
	// It is taken ahead of what volume clauses do, and ahead of what goes.
	checkGoal(t, example(), "volume a size 20 thick; snapshot of a; absent s", "100 80 4; a 1 20 0 0 0..20; a@3 3 10 1 1 0..4")
	checkGoal(t, example(), "absent s; snapshot of s; absent s@3", "100 80 4; a 1 10 0 0 0..4")
	checkGoal(t, example(), "absent a; absent s; snapshot of a; keep 0 of a", "100 80 4")
	// Its source is what was handed in: nothing that a volume clause makes.
	checkRefused(t, example(), "volume n size 1; ^snapshot of n", api.ErrGoalUnknown)
	checkRefused(t, example(), "^snapshot of a@3; snapshot of a", api.ErrGoalUnknown)
	checkRefused(t, example(), "snapshot of a; ^snapshot of a@4", api.ErrGoalUnknown)
	checkRefused(t, example(), "rename a to b; ^snapshot of a", api.ErrGoalUnknown)
}

func TestP22_1FreshNames(t *testing.T) {
	for _, c := range []struct{ count, next int }{{29, 7}, {28, 10}, {28, 99}, {27, 100}, {20, 1 << 30}} {
		name := strings.Repeat("n", c.count)
		v := api.View{Capacity: 9, Next: c.next, Volumes: []api.Volume{{Name: name, ID: 1, Size: 1}}}
		checkFresh(t, v, "snapshot of "+name, fmt.Sprintf("%s@%d", name, c.next))
		checkSaid(t, v, "snapshot of "+name, name+" 1 1 0 0", fmt.Sprintf("%s@%d %d 1 1 1", name, c.next, c.next))
		v.Volumes[0].Name += "n"
		checkNoFresh(t, v, "^snapshot of "+name+"n", api.ErrGoalName)
	}
	// The number grows by a digit between two.
	name := strings.Repeat("n", 29)
	v := api.View{Capacity: 9, Next: 9, Volumes: []api.Volume{{Name: name, ID: 1, Size: 1}}}
	checkFresh(t, v, "snapshot of "+name, name+"@9")
	checkNoFresh(t, v, "snapshot of "+name+"; ^snapshot of "+name, api.ErrGoalName)

	taken := crowd()
	taken.Volumes[1].Name = "a@20"
	checkNoFresh(t, taken, "^snapshot of a", api.ErrGoalName)
	checkFresh(t, taken, "snapshot of e; snapshot of a", "e@20", "a@21")
	checkNoFresh(t, example(), "rename s to a@3; ^snapshot of a", api.ErrGoalName)
	checkFresh(t, example(), "rename s to a@4; snapshot of a", "a@3")
	checkFresh(t, taken, "rename a@20 to c; snapshot of a", "a@20")
	// A name that goes is taken still, and one that a volume clause wants is not yet.
	checkNoFresh(t, taken, "^snapshot of a; absent a@20", api.ErrGoalName)
	checkRefused(t, example(), "snapshot of a; ^volume a@3 size 10", api.ErrGoalKind)
}

func TestP22_1FreshWhereTheCatalogIsFull(t *testing.T) {
	for count := 62; count <= 64; count++ {
		v := crowded(crowd(), count)
		room := 64 - count
		text := strings.Repeat("snapshot of a; ", room)
		checkSaid(t, v, text+"rename a to a", "a 1 40 0 0 0..4 6..7 30..40")
		checkNoFresh(t, v, text+"^snapshot of a", api.ErrCatalogFull)
		checkNoFresh(t, v, "absent v20; absent v21; keep 0 of a; exact; "+text+"^snapshot of a", api.ErrCatalogFull)
	}
	last := next(crowd(), 1<<30)
	checkFresh(t, last, "snapshot of a", "a@1073741824")
	checkNoFresh(t, last, "snapshot of a; ^snapshot of a", api.ErrCatalogIDs)
	checkNoFresh(t, next(crowd(), 1<<30+1), "^snapshot of a", api.ErrCatalogIDs)
	checkSaid(t, last, "snapshot of e", "100 60 1073741825", "e@1073741824 1073741824 40 9 1")
}

// Of all that is against a snapshot the first is told.
func TestP22_1TheOrderOfFreshErrors(t *testing.T) {
	full := next(crowded(crowd(), 64), 1<<30+1)
	i := 0
	for full.Volumes[i].Name != "v40" {
		i++
	}
	full.Volumes[i].Name = "v" + strings.Repeat("n", 30)
	checkNoFresh(t, full, "^snapshot of z", api.ErrGoalUnknown)
	checkNoFresh(t, full, "^snapshot of "+strings.Repeat("z", 31), api.ErrGoalUnknown)
	checkNoFresh(t, full, "^snapshot of p", api.ErrGoalPartial)
	checkNoFresh(t, full, "^snapshot of a", api.ErrCatalogFull)
	checkNoFresh(t, full, "^snapshot of v"+strings.Repeat("n", 30), api.ErrCatalogFull)
	full.Volumes = full.Volumes[:len(full.Volumes)-1]
	checkNoFresh(t, full, "^snapshot of p", api.ErrGoalPartial)
	checkNoFresh(t, full, "^snapshot of v"+strings.Repeat("n", 30), api.ErrCatalogIDs)
	full.Next = 1 << 30
	checkNoFresh(t, full, "^snapshot of v"+strings.Repeat("n", 30), api.ErrGoalName)
	// The clauses are taken one behind the other: what is against the first one is told.
	checkNoFresh(t, full, "snapshot of a; ^snapshot of z", api.ErrGoalUnknown)
	checkNoFresh(t, example(), "^snapshot of z; snapshot of y", api.ErrGoalUnknown)
	checkNoFresh(t, crowd(), "^snapshot of p; snapshot of y", api.ErrGoalPartial)
}
