package goal_test

import (
	"testing"

	"cistern/api"
)

// three is a view of three volumes that have nothing to do with one another, and of p, which is Partial.
func three() api.View {
	return api.View{Capacity: 9, Free: 8, Next: 9, Volumes: []api.Volume{
		{Name: "a", ID: 1, Size: 1}, {Name: "b", ID: 2, Size: 2}, {Name: "c", ID: 3, Size: 3}, {Name: "p", ID: 4, Size: 4, Partial: true},
	}}
}

const restOfThree = "; p 4 4 0 0 half"

func TestP22_1RenamesAtOneTime(t *testing.T) {
	v := three()
	checkGoal(t, v, "rename a to z", "9 8 9; b 2 2 0 0; c 3 3 0 0"+restOfThree+"; z 1 1 0 0")
	checkGoal(t, v, "rename c to ~1", "9 8 9; a 1 1 0 0; b 2 2 0 0"+restOfThree+"; ~1 3 3 0 0")
	for _, text := range []string{"rename a to b; rename b to z", "rename b to z; rename a to b"} {
		checkGoal(t, v, text, "9 8 9; b 1 1 0 0; c 3 3 0 0"+restOfThree+"; z 2 2 0 0")
	}
	for _, text := range []string{"rename a to b; rename b to c; rename c to d", "rename c to d; rename b to c; rename a to b", "rename b to c; rename a to b; rename c to d"} {
		checkGoal(t, v, text, "9 8 9; b 1 1 0 0; c 2 2 0 0; d 3 3 0 0"+restOfThree)
	}
	for _, text := range []string{"rename a to b; rename b to a", "rename b to a; rename a to b"} {
		checkGoal(t, v, text, "9 8 9; a 2 2 0 0; b 1 1 0 0; c 3 3 0 0"+restOfThree)
	}
	for _, text := range []string{"rename a to b; rename b to c; rename c to a", "rename c to a; rename b to c; rename a to b", "rename b to c; rename c to a; rename a to b"} {
		checkGoal(t, v, text, "9 8 9; a 3 3 0 0; b 1 1 0 0; c 2 2 0 0"+restOfThree)
	}
}

func TestP22_1RenamesOfWhatIsNotThere(t *testing.T) {
	v := three()
	checkGoal(t, v, "rename z to a", told(v))
	checkGoal(t, v, "rename z to p", told(v)) // nothing is done, so it may be Partial
	checkGoal(t, v, "rename y to a; rename z to b", told(v))
	checkRefused(t, v, "^rename z to y", api.ErrGoalRename)
	checkRefused(t, v, "rename z to a; ^rename y to x", api.ErrGoalRename)
	checkRefused(t, v, "rename a to y; ^rename z to x", api.ErrGoalRename)
	// Its new name is there now, but is another's that goes elsewhere.
	checkRefused(t, v, "^rename z to a; rename a to y", api.ErrGoalRename)
	checkRefused(t, v, "rename a to y; ^rename z to a", api.ErrGoalRename)
	// Its new name comes to be there by a rename.
	checkRefused(t, v, "^rename z to y; rename y to x", api.ErrGoalRename)
}

func TestP22_1RenamesToTheSameName(t *testing.T) {
	v := three()
	checkGoal(t, v, "rename a to a", told(v))
	checkGoal(t, v, "rename p to p", told(v))
	checkGoal(t, v, "rename a to a; rename b to b; rename p to p", told(v))
	checkRefused(t, v, "^rename z to z", api.ErrGoalRename)
	checkRefused(t, v, "rename a to z; ^rename y to y", api.ErrGoalRename)
	checkRefused(t, v, "rename a to a; ^rename b to a", api.ErrGoalTwice)
	checkRefused(t, v, "rename b to a; ^rename a to a", api.ErrGoalTwice)
	checkRefused(t, v, "rename a to a; ^rename z to a", api.ErrGoalTwice)
	checkRefused(t, v, "rename a to a; ^rename a to z", api.ErrGoalTwice)
	checkRefused(t, v, "rename a to a; ^rename a to a", api.ErrGoalTwice)
	checkRefused(t, v, "rename z to z; ^rename z to z", api.ErrGoalTwice)
}

func TestP22_1RenamesToAnothersName(t *testing.T) {
	v := three()
	checkRefused(t, v, "^rename a to b", api.ErrGoalRename)
	checkRefused(t, v, "^rename a to p", api.ErrGoalRename)
	checkRefused(t, v, "^rename a to b; rename c to d", api.ErrGoalRename)
	checkRefused(t, v, "rename b to z; ^rename a to c", api.ErrGoalRename)
	// Where the other one cannot go that one fails, or this one if it stands first.
	checkRefused(t, v, "rename a to b; ^rename b to c", api.ErrGoalRename)
	checkRefused(t, v, "^rename b to c; rename a to b", api.ErrGoalRename)
	// The old name of one that is not there keeps nothing.
	checkGoal(t, v, "rename y to a; rename b to y", "9 8 9; a 1 1 0 0; c 3 3 0 0"+restOfThree+"; y 2 2 0 0")
}

func TestP22_1RenamesOfWhatIsPartial(t *testing.T) {
	v := three()
	checkRefused(t, v, "^rename p to q", api.ErrGoalPartial)
	checkRefused(t, v, "^rename p to a", api.ErrGoalPartial)
	checkRefused(t, v, "^rename p to a; rename a to q", api.ErrGoalPartial)
	checkRefused(t, v, "rename a to p; ^rename p to a", api.ErrGoalPartial)
	checkRefused(t, v, "rename a to p; ^rename p to q", api.ErrGoalPartial)
	checkRefused(t, v, "^rename p to q; rename y to x", api.ErrGoalPartial)
	checkRefused(t, v, "^rename y to x; rename p to q", api.ErrGoalRename)
}

func TestP22_1RenamesThatStandTwice(t *testing.T) {
	v := three()
	checkRefused(t, v, "rename a to x; ^rename a to y", api.ErrGoalTwice)
	checkRefused(t, v, "rename a to x; ^rename b to x", api.ErrGoalTwice)
	checkRefused(t, v, "rename a to x; ^rename a to x", api.ErrGoalTwice)
	checkRefused(t, v, "rename a to x; rename b to y; ^rename c to x; rename a to z", api.ErrGoalTwice)
	checkRefused(t, v, "rename a to x; rename b to y; ^rename a to z; rename c to x", api.ErrGoalTwice)
	checkRefused(t, v, "rename x to a; ^rename x to b", api.ErrGoalTwice)
	// All of them are looked at for that ahead of all that else is against one.
	checkRefused(t, v, "rename y to z; rename a to x; ^rename a to w", api.ErrGoalTwice)
	checkRefused(t, v, "rename p to z; rename a to b; ^rename c to b", api.ErrGoalTwice)
	// A new name may be another's old one.
	checkGoal(t, v, "rename a to b; rename b to a; rename c to c", "9 8 9; a 2 2 0 0; b 1 1 0 0; c 3 3 0 0"+restOfThree)
}

// All that comes behind the renames goes by the new names.
func TestP22_1BehindTheRenames(t *testing.T) {
	v := example()
	checkGoal(t, v, "rename a to b; volume b size 2", "100 80 3; b 1 2 0 0 0..2; s 2 10 1 1 0..3")
	checkGoal(t, v, "rename a to b; volume a size 2", "100 80 4; a 3 2 0 0; b 1 10 0 0 0..4; s 2 10 1 1 0..3")
	checkGoal(t, v, "rename a to b; volume c from b size 10", "100 80 4; b 1 10 0 0 0..4; c 3 10 1 0 0..4; s 2 10 1 1 0..3")
	checkRefused(t, v, "rename a to b; ^volume c from a size 10", api.ErrGoalUnknown)
	checkGoal(t, v, "rename a to s; rename s to a; volume s size 3", "100 80 3; a 2 10 1 1 0..3; s 1 3 0 0 0..3")
	checkRefused(t, v, "rename a to s; rename s to a; ^volume a size 3", api.ErrGoalKind)
	checkGoal(t, v, "rename a to b; keep 0 of b", "100 80 3; b 1 10 0 0 0..4")
	checkRefused(t, v, "rename a to b; ^keep 0 of a", api.ErrGoalUnknown)
	checkGoal(t, v, "rename s to r; absent r", "100 80 3; a 1 10 0 0 0..4")
	checkGoal(t, v, "rename s to r; absent s", "100 80 3; a 1 10 0 0 0..4; r 2 10 1 1 0..3")
	checkGoal(t, v, "rename a to s; rename s to a; absent a; absent s", "100 80 3")
}
