package goal_test

import (
	"strings"
	"testing"

	"cistern/api"
)

// pride is a view of a with six snapshots, whose names rise another way than their IDs; b, a clone of a with a snapshot; and d, a
// clone of the snapshot z.
func pride() api.View {
	return api.View{Capacity: 9, Free: 8, Next: 20, Volumes: []api.Volume{
		{Name: "a", ID: 2, Size: 1},
		{Name: "b", ID: 5, Size: 1, Origin: 2},
		{Name: "d", ID: 12, Size: 1, Origin: 3},
		{Name: "m", ID: 9, Size: 1, Origin: 2, Kind: 1},
		{Name: "n", ID: 4, Size: 1, Origin: 2, Kind: 1},
		{Name: "o", ID: 14, Size: 1, Origin: 2, Kind: 1},
		{Name: "s", ID: 6, Size: 1, Origin: 5, Kind: 1},
		{Name: "w", ID: 10, Size: 1, Origin: 2, Kind: 1, Partial: true},
		{Name: "x", ID: 7, Size: 1, Origin: 2, Kind: 1},
		{Name: "z", ID: 3, Size: 1, Origin: 2, Kind: 1},
	}}
}

// checkStay holds which volumes stay, by their names.
func checkStay(t *testing.T, v api.View, text string, names string) {
	t.Helper()
	var want []string
	for _, x := range v.Volumes {
		if strings.Contains(" "+names+" ", " "+x.Name+" ") {
			want = append(want, told(api.View{Volumes: []api.Volume{x}})[len(zero)+2:])
		} else {
			want = append(want, "no "+x.Name)
		}
	}
	checkSaid(t, v, text, want...)
}

// All but so many of the snapshots go, those of the least numbers; those that have children of their own may not.
func TestP22_1Keep(t *testing.T) {
	checkStay(t, pride(), "keep 7 of a", "a b d m n o s w x z")
	checkStay(t, pride(), "keep 6 of a", "a b d m n o s w x z")
	checkStay(t, pride(), "keep 1099511627776 of a", "a b d m n o s w x z")
	checkRefused(t, pride(), "^keep 5 of a", api.ErrGoalChildren)
	checkStay(t, pride(), "keep 5 of a; absent d", "a b m n o s w x")
	checkStay(t, pride(), "keep 4 of a; absent d", "a b m o s w x")
	checkStay(t, pride(), "keep 3 of a; absent d", "a b m o s w")
	checkStay(t, pride(), "keep 2 of a; absent d", "a b o s w")
	checkStay(t, pride(), "keep 1 of a; absent d", "a b o s")
	checkStay(t, pride(), "keep 0 of a; absent d", "a b s")
	// Of one with one, and of those with none: a snapshot, a clone, what is new, what is fresh.
	checkStay(t, pride(), "keep 1 of b", "a b d m n o s w x z")
	checkStay(t, pride(), "keep 0 of b", "a b d m n o w x z")
	checkStay(t, pride(), "keep 0 of z; keep 0 of d; keep 0 of w; volume new size 1; keep 0 of new; snapshot of b; keep 0 of b@20", "a b d m n o s w x z")
	checkStay(t, pride(), "keep 0 of b; keep 0 of s", "a b d m n o w x z")
	checkStay(t, pride(), "keep 0 of s; keep 0 of b", "a b d m n o w x z")
}

// Fresh ones have the greatest numbers of all.
func TestP22_1KeepOfFreshOnes(t *testing.T) {
	checkSaid(t, pride(), "snapshot of a; keep 1 of a; absent d", "9 8 21", "a@20 20 1 2 1", "no o", "no w", "no m")
	checkSaid(t, pride(), "keep 2 of a; snapshot of a; absent d", "9 8 21", "a@20 20 1 2 1", "o 14 1 2 1", "no w", "no m")
	checkSaid(t, pride(), "snapshot of a; snapshot of a; keep 1 of a; absent d", "9 8 22", "a@21 21 1 2 1", "no a@20", "no o")
	checkSaid(t, pride(), "snapshot of a; snapshot of a; keep 0 of a; absent d", "9 8 22", "no a@20", "no a@21", "no o")
	checkSaid(t, pride(), "snapshot of b; snapshot of s; keep 1 of b; keep 0 of s", "9 8 22", "b@20 20 1 5 1", "no s", "no s@21")
	checkRefused(t, pride(), "snapshot of s; ^keep 0 of b", api.ErrGoalChildren)
	// Nines and tens: by their numbers, not by their names.
	nine := example()
	nine.Next = 9
	checkSaid(t, nine, "snapshot of a; snapshot of a; keep 1 of a", "a@10 10 10 1 1 0..4", "no a@9", "no s")
}

func TestP22_1KeepCountsAllThatAreThere(t *testing.T) {
	// Those that go by another clause count too.
	checkStay(t, pride(), "keep 1 of a; absent o; absent d", "a b s")
	checkStay(t, pride(), "absent o; absent d; keep 2 of a", "a b s w")
	checkStay(t, pride(), "keep 0 of a; absent o; absent m; absent d", "a b s")
	// Clones and snapshots of others do not.
	checkSaid(t, pride(), "volume e from a size 1; snapshot of s; keep 6 of a", "e 21 1 2 0", "z 3 1 2 1")
}

func TestP22_1KeepOfWhatIsNotThere(t *testing.T) {
	checkRefused(t, pride(), "^keep 1 of q", api.ErrGoalUnknown)
	checkRefused(t, pride(), "^keep 1 of q; absent a; absent qq", api.ErrGoalUnknown)
	checkRefused(t, pride(), "keep 0 of b; ^keep 1 of q; exact", api.ErrGoalUnknown)
	checkStay(t, pride(), "keep 1 of q; absent q", "a b d m n o s w x z")
	checkStay(t, pride(), "absent q; keep 0 of q; keep 0 of b", "a b d m n o w x z")
	checkRefused(t, pride(), "rename b to c; ^keep 1 of b", api.ErrGoalUnknown)
	checkSaid(t, pride(), "rename b to c; keep 0 of b; absent b", "c 5 1 2 0", "s 6 1 5 1")
	// A clause for a name that is wanted makes it be there; one that asks a snapshot of it, or spares it, does not.
	checkSaid(t, pride(), "keep 0 of q; volume q size 1", "q 20 1 0 0")
	checkRefused(t, pride(), "^keep 0 of b@21; snapshot of b; absent b@20", api.ErrGoalUnknown)
	// What goes by a clause ahead is there.
	checkStay(t, pride(), "absent s; keep 0 of s", "a b d m n o w x z")
}

func TestP22_1KeepTwice(t *testing.T) {
	checkRefused(t, pride(), "keep 9 of a; ^keep 9 of a", api.ErrGoalTwice)
	checkRefused(t, pride(), "keep 9 of a; keep 9 of b; ^keep 8 of a; keep 9 of b", api.ErrGoalTwice)
	checkRefused(t, pride(), "keep 9 of q; ^keep 8 of q; absent q", api.ErrGoalTwice)
	// Clause by clause.
	checkRefused(t, pride(), "^keep 9 of q; keep 9 of a; keep 9 of a", api.ErrGoalUnknown)
	checkRefused(t, pride(), "^keep 9 of q; keep 9 of q", api.ErrGoalUnknown)
	checkRefused(t, pride(), "keep 9 of a; ^keep 9 of a; keep 9 of q", api.ErrGoalTwice)
	checkStay(t, pride(), "keep 9 of a; keep 9 of b; keep 9 of s", "a b d m n o s w x z")
}

func TestP22_1Absent(t *testing.T) {
	checkStay(t, pride(), "absent d", "a b m n o s w x z")
	checkStay(t, pride(), "absent w", "a b d m n o s x z")
	checkStay(t, pride(), "absent s; absent b; absent d", "a m n o w x z")
	checkStay(t, pride(), "absent d; absent d", "a b m n o s w x z")
	checkStay(t, pride(), "absent q; absent q", "a b d m n o s w x z")
	checkSaid(t, pride(), "snapshot of b; absent b@20", "9 8 21", "no b@20", "b 5 1 2 0")
	checkSaid(t, pride(), "absent p; absent t; absent q; absent r", "a 2 1 0 0")
	checkStay(t, crowd(), "absent p; absent t; absent q; absent r", "a c e f k l m")
	// All of it.
	checkGoal(t, pride(), "absent a; absent b; absent d; absent m; absent n; absent o; absent s; absent w; absent x; absent z", "9 8 20")
	checkGoal(t, pride(), "absent d; absent b; absent a; keep 0 of a; keep 0 of b", "9 8 20")
	// Wanted and not: the first clause of those.
	checkRefused(t, pride(), "volume a size 1; ^absent a", api.ErrGoalTwice)
	checkRefused(t, pride(), "^absent a; volume a size 1", api.ErrGoalTwice)
	checkRefused(t, pride(), "volume q size 1; ^absent q", api.ErrGoalTwice)
	checkRefused(t, pride(), "absent z; absent d; ^absent a; absent q; volume q size 1; volume a size 1", api.ErrGoalTwice)
	checkRefused(t, pride(), "absent a; exact; ^absent q; volume q size 1", api.ErrGoalTwice)
	// Another clause's source may go, where nothing stays of it.
	checkGoal(t, example(), "keep 0 of a; absent a; exact", "100 80 3")
	checkGoal(t, example(), "snapshot of a; keep 0 of a; absent a", "100 80 4")
}

// Which volumes an exact clause spares.
func TestP22_1Exact(t *testing.T) {
	// By itself it lets all go but the snapshots.
	free := three()
	checkGoal(t, free, "exact", "9 8 9")
	checkGoal(t, free, "exact; exact", "9 8 9")
	checkGoal(t, free, "volume b size 2; exact", "9 8 9; b 2 2 0 0")
	checkGoal(t, free, "exact; volume b size 7", "9 8 9; b 2 7 0 0")
	checkGoal(t, free, "exact; volume p size 4", "9 8 9; p 4 4 0 0 half")
	checkGoal(t, free, "exact; volume q size 7", "9 8 10; q 9 7 0 0")
	checkGoal(t, free, "exact; volume q from b size 7", "9 8 10; b 2 2 0 0; q 9 7 2 0")
	checkGoal(t, free, "exact; volume q from r size 7; volume r from b size 1", "9 8 11; b 2 2 0 0; q 10 7 9 0; r 9 1 2 0")
	checkGoal(t, free, "exact; snapshot of c", "9 8 10; c 3 3 0 0; c@9 9 3 3 1")
	checkGoal(t, free, "exact; snapshot of c; keep 0 of c", "9 8 10; c 3 3 0 0")
	checkGoal(t, free, "keep 3 of b; exact; keep 0 of p", "9 8 9; b 2 2 0 0; p 4 4 0 0 half")
	checkGoal(t, free, "rename a to z; exact", "9 8 9; z 1 1 0 0")
	checkGoal(t, free, "rename z to a; exact", "9 8 9; a 1 1 0 0")
	checkGoal(t, free, "rename a to a; exact", "9 8 9; a 1 1 0 0")
	checkGoal(t, free, "rename a to b; rename b to a; exact", "9 8 9; a 2 2 0 0; b 1 1 0 0")
	// The old name of a rename is spared for nothing, nor is what is to be absent.
	checkGoal(t, free, "rename z to a; rename y to b; exact", "9 8 9; a 1 1 0 0; b 2 2 0 0")
	checkGoal(t, free, "absent b; exact", "9 8 9")
	checkGoal(t, free, "keep 0 of q; absent q; exact", "9 8 9")
	// Snapshots stay.
	gone := pride()
	gone.Volumes[6].Origin = 1
	checkStay(t, gone, "keep 9 of a; exact; absent z", "a m n o s w x")
	checkStay(t, pride(), "keep 9 of a; volume b size 1; volume d size 1; exact", "a b d m n o s w x z")
	checkStay(t, pride(), "exact; absent s; absent m; absent n; absent o; absent w; absent x; absent z", "")
}

// A volume that goes may have no child that stays.
func TestP22_1Children(t *testing.T) {
	checkRefused(t, pride(), "^absent a", api.ErrGoalChildren)
	checkRefused(t, pride(), "^absent z", api.ErrGoalChildren)
	checkRefused(t, pride(), "absent d; ^absent b", api.ErrGoalChildren)
	checkStay(t, pride(), "absent z; absent d", "a b m n o s w x")
	checkStay(t, pride(), "absent b; absent s", "a d m n o w x z")
	// A child's child that stays is that child's.
	checkRefused(t, pride(), "absent m; absent n; absent o; absent w; absent x; absent a; ^absent b; absent z; absent d", api.ErrGoalChildren)
	// A child that is made, and one that is fresh.
	checkRefused(t, crowd(), "volume n from e size 1; ^absent e", api.ErrGoalChildren)
	checkRefused(t, crowd(), "snapshot of e; ^absent e", api.ErrGoalChildren)
	checkRefused(t, crowd(), "volume n from e@20 size 1; snapshot of e; ^keep 0 of e", api.ErrGoalChildren)
	checkSaid(t, crowd(), "snapshot of e; absent e; absent e@20", "no e", "no e@20")
	// Partial or not.
	checkRefused(t, crowd(), "^absent p", api.ErrGoalChildren)
	checkStay(t, crowd(), "absent p; absent t", "a c e f k l m q r")
	half := crowd()
	half.Volumes[10].Partial = true
	checkRefused(t, half, "^absent p", api.ErrGoalChildren)
	// The one whose child it is may be called anything.
	checkRefused(t, pride(), "rename d to e; ^absent z", api.ErrGoalChildren)
	checkSaid(t, pride(), "rename d to e; absent z; absent e", "no z", "no e")
}

// The clause that is told is the first in the list by which a volume goes of which one comes that stays, of whichever kind.
func TestP22_1WhoseChildren(t *testing.T) {
	// z has a child by keep, b by absent, e by exact.
	v := pride()
	v.Volumes = append(v.Volumes, api.Volume{Name: "~e", ID: 15, Size: 1}, api.Volume{Name: "~f", ID: 16, Size: 1, Origin: 15, Kind: 1})
	spared := "volume d size 1"
	checkRefused(t, v, "^keep 5 of a; absent b; exact; "+spared, api.ErrGoalChildren)
	checkRefused(t, v, "^absent b; keep 5 of a; exact; "+spared, api.ErrGoalChildren)
	checkRefused(t, v, "^exact; absent b; keep 5 of a; "+spared, api.ErrGoalChildren)
	checkRefused(t, v, spared+"; ^exact; keep 5 of a; absent b", api.ErrGoalChildren)
	checkRefused(t, v, "^keep 5 of a; exact; absent b; "+spared, api.ErrGoalChildren)
	checkRefused(t, v, "^absent b; exact; "+spared, api.ErrGoalChildren)
	// What goes by two clauses goes by the first of them, also where the other one's step comes first.
	checkRefused(t, v, "^absent z; keep 5 of a; volume b size 1", api.ErrGoalChildren)
	checkRefused(t, v, "^keep 5 of a; absent z; volume b size 1", api.ErrGoalChildren)
	checkRefused(t, v, "absent m; ^absent z; absent z; keep 5 of a", api.ErrGoalChildren)
	checkRefused(t, example(), "^exact; absent a", api.ErrGoalChildren)
	checkRefused(t, example(), "^absent a; exact", api.ErrGoalChildren)
	checkRefused(t, example(), "^exact; exact", api.ErrGoalChildren)
	// Clauses by which nothing goes, or nothing with a child, are not told.
	checkRefused(t, v, "absent q; keep 9 of a; absent d; ^absent b", api.ErrGoalChildren)
	checkRefused(t, v, "keep 0 of q; absent q; keep 1 of b; ^absent ~e", api.ErrGoalChildren)
	// A child may go by a clause behind, of any kind.
	checkSaid(t, v, "absent b; keep 0 of b", "no b", "no s")
	checkSaid(t, v, "absent ~e; absent ~f", "no ~e", "no ~f")
	checkSaid(t, v, "exact; volume d size 1; volume b size 1; volume a size 1; absent ~f", "no ~e", "no ~f")
	checkSaid(t, v, "keep 5 of a; exact; snapshot of b; keep 9 of ~e", "no z", "no d", "b 5 1 2 0")
}
