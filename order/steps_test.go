package order_test

import (
	"strings"
	"testing"

	"cistern/api"
)

// The chapter's second table, in its order.
func TestP24_3Examples(t *testing.T) {
	checkSteps(t, "a 1 5; b 2 5", "rename a to b; rename b to c", "rename b to c; rename a to b")
	checkSteps(t, "a 1 5; b 2 5", "rename a to b; rename b to a", "rename a to ~1; rename b to a; rename ~1 to b")
	checkSteps(t, "a 1 5; b 2 5; ~1 3 5", "rename b to a; rename a to b", "rename a to ~2; rename b to a; rename ~2 to b")
	checkSteps(t, "a 1 9; s 2 9 1", "fill n 0 5; resize n 5; clone n of c; create c 8; delete a; delete s; snap a@3 of a",
		"snap a@3 of a; delete s; delete a; create c 8; clone n of c; resize n 5; fill n 0 5")
	checkRefused(t, "", steps(t, "clone a of b; clone b of a"), api.ErrOrderCircle)
	checkRefused(t, "", []api.Op{{Kind: api.OpWrite, Name: "a", Data: make([]byte, 512)}}, api.ErrOrderStep)
}

func TestP24_3EachGroupAlone(t *testing.T) {
	over := "a 1 9; b 2 9; c 3 9; d 4 9"
	checkSteps(t, over, "", "")
	for _, text := range []string{
		"rename d to h; rename a to e; rename c to g", "snap z of a; snap y of b; snap x of c", "delete d; delete b; delete a", "create z 5; create y 4; clone x of a",
		"clone z of d; clone y of d; create x 1", "resize d 3; resize b 9; resize a 1", "resize d 10; resize b 30; resize a 11", "fill d 0 3; fill d 3 5; fill a 0 1; fill d 0 3",
	} {
		checkSteps(t, over, text, text)
	}
}

// Each group stands ahead of each later one, whatever their numbers.
func TestP24_3GroupsInTheirOrder(t *testing.T) {
	one := []string{"rename a to e", "snap f of b", "delete c", "create g 5", "resize b 3", "resize d 30", "fill d 0 5"}
	for i, first := range one {
		for _, later := range one[i+1:] {
			checkSteps(t, "a 1 9; b 2 9; c 3 9; d 4 9", later+"; "+first, first+"; "+later)
			checkSteps(t, "a 1 9; b 2 9; c 3 9; d 4 9", first+"; "+later, first+"; "+later)
		}
	}
	checkSteps(t, "a 1 9; b 2 9; c 3 9; d 4 9", "resize d 30; fill d 0 5; delete c; resize b 3; clone g of b; rename a to e; snap f of b",
		"rename a to e; snap f of b; delete c; clone g of b; resize b 3; resize d 30; fill d 0 5")
	checkSteps(t, "a 1 9; b 2 9; c 3 9; d 4 9", "fill d 0 5; resize d 30; resize b 3; create y 6; clone g of b; delete d; delete c; snap f2 of b; snap f of b; rename d to h; rename a to e",
		"rename d to h; rename a to e; snap f2 of b; snap f of b; delete d; delete c; create y 6; clone g of b; resize b 3; resize d 30; fill d 0 5")
}

// Creates and clones are one group.
func TestP24_3CreatesAndClonesAreOneGroup(t *testing.T) {
	checkSteps(t, "a 1 9", "clone b of a; create c 5", "clone b of a; create c 5")
	checkSteps(t, "a 1 9", "create c 5; clone b of a", "create c 5; clone b of a")
}

// Snapshots stand by their numbers, also where one is of a later one.
func TestP24_3Snapshots(t *testing.T) {
	checkSteps(t, "a 1 9", "snap c of b; snap b of a; snap d of c", "snap c of b; snap b of a; snap d of c")
	checkSteps(t, "a 1 9", "snap c of c; snap b of d; snap d of b", "snap c of c; snap b of d; snap d of b")
	checkSteps(t, "a 1 9", "snap b of a; delete b; snap b of a; snap c of b", "snap b of a; snap b of a; snap c of b; delete b")
}

// A resize to the size at birth or below stands ahead of one above it.
func TestP24_3SizeOfWhatIsThere(t *testing.T) {
	checkSteps(t, "a 1 9; b 2 5", "resize b 9; resize a 3; fill a 0 2; resize b 5", "resize a 3; resize b 5; resize b 9; fill a 0 2")
	for _, other := range []string{"resize a 8", "resize a 9"} {
		checkSteps(t, "a 1 9; b 2 5", "resize b 6; "+other, other+"; resize b 6")
	}
	checkSteps(t, "a 1 9; b 2 5", "resize b 6; resize a 10", "resize b 6; resize a 10")
	checkSteps(t, "a 1 9; b 2 5", "resize x 1; resize b 5", "resize b 5; resize x 1")
}

// The names are those behind the renames.
func TestP24_3SizeBehindTheRenames(t *testing.T) {
	checkSteps(t, "a 1 9; b 2 5", "resize c 10; resize b 9; rename b to c; rename a to b", "rename b to c; rename a to b; resize b 9; resize c 10")
	checkSteps(t, "a 1 9; b 2 5", "resize b 10; resize a 9; resize c 9; rename a to c", "rename a to c; resize c 9; resize b 10; resize a 9")
	checkSteps(t, "a 1 9; b 2 5", "resize a 6; resize b 9; resize b 10; resize a 5; rename a to b; rename b to a",
		"rename a to ~1; rename b to a; rename ~1 to b; resize b 9; resize a 5; resize a 6; resize b 10")
	checkSteps(t, "a 1 9", "resize ~1 3; resize a 9; rename a to b; rename b to a", "rename a to ~2; rename b to a; rename ~2 to b; resize ~1 3; resize a 9")
}

// Sizes at birth of what is made by the same operations.
func TestP24_3SizeOfWhatIsMade(t *testing.T) {
	checkSteps(t, "a 1 9", "resize n 9; resize n 8; create n 8", "create n 8; resize n 8; resize n 9")
	checkSteps(t, "a 1 9", "resize n 10; resize n 9; clone n of a", "clone n of a; resize n 9; resize n 10")
	checkSteps(t, "a 1 9", "resize n 10; resize n 9; snap n of a", "snap n of a; resize n 9; resize n 10")
	checkSteps(t, "a 1 9", "resize n 8; resize n 7; clone n of m; clone m of l; create l 7", "create l 7; clone m of l; clone n of m; resize n 7; resize n 8")
	checkSteps(t, "a 1 9", "resize n 10; resize n 9; clone n of m; snap m of l; snap l of a", "snap m of l; snap l of a; clone n of m; resize n 9; resize n 10")
	checkSteps(t, "a 1 9", "resize n 1; resize a 9; clone n of m; clone m of l", "clone m of l; clone n of m; resize a 9; resize n 1")
	checkSteps(t, "a 1 9; b 2 4", "resize c 10; resize n 9; rename a to c; clone n of c", "rename a to c; clone n of c; resize n 9; resize c 10")
	checkSteps(t, "a 1 9; b 2 4", "resize n 1; resize b 4; clone n of a; rename a to c", "rename a to c; clone n of a; resize b 4; resize n 1")
}

// Of several that make a name the first counts, and what is there ahead of all of them.
func TestP24_3SizeByTheFirstThatMakes(t *testing.T) {
	checkSteps(t, "a 1 9", "resize n 5; resize n 3; resize n 4; create n 3; create n 9", "create n 3; create n 9; resize n 3; resize n 5; resize n 4")
	checkSteps(t, "a 1 9", "resize n 5; resize n 3; resize n 4; create n 3; snap n of a", "snap n of a; create n 3; resize n 3; resize n 5; resize n 4")
	checkSteps(t, "a 1 9", "resize n 10; resize n 8; clone n of a; create n 3", "clone n of a; create n 3; resize n 8; resize n 10")
	checkSteps(t, "a 1 9", "resize a 10; resize a 9; create a 3; delete a", "delete a; create a 3; resize a 9; resize a 10")
	checkSteps(t, "a 1 9", "resize a 10; resize n 9; create a 3; delete a; clone n of a", "delete a; create a 3; clone n of a; resize n 9; resize a 10")
}

// In a circle of snapshots and clones, and of what leads into one, it is 0.
func TestP24_3SizeInACircle(t *testing.T) {
	checkSteps(t, "a 1 9", "resize n 1; resize m 1; resize a 9; snap n of m; snap m of n", "snap n of m; snap m of n; resize a 9; resize n 1; resize m 1")
	checkSteps(t, "a 1 9", "resize n 1; resize a 9; snap n of n", "snap n of n; resize a 9; resize n 1")
	checkSteps(t, "a 1 9", "resize n 1; resize a 9; snap n of m; clone m of n", "snap n of m; clone m of n; resize a 9; resize n 1")
	checkSteps(t, "a 1 9", "resize k 1; resize l 1; resize n 1; resize a 9; snap k of l; clone l of n; snap n of m; snap m of n",
		"snap k of l; snap n of m; snap m of n; clone l of n; resize a 9; resize k 1; resize l 1; resize n 1")
	checkSteps(t, "a 1 9", "resize n 10; resize n 9; snap n of m; snap m of n; snap m of a; rename a to m", "rename a to m; snap n of m; snap m of n; snap m of a; resize n 9; resize n 10")
}

// Chains of renames: the place is free ahead of the one that comes to it.
func TestP24_3ChainsOfRenames(t *testing.T) {
	over := "a 1 9; b 2 9; c 3 9; d 4 9; e 5 9"
	checkSteps(t, over, "rename a to b; rename b to c; rename c to d; rename d to e; rename e to f", "rename e to f; rename d to e; rename c to d; rename b to c; rename a to b")
	checkSteps(t, over, "rename e to f; rename c to d; rename a to b; rename d to e; rename b to c", "rename e to f; rename d to e; rename c to d; rename b to c; rename a to b")
	checkSteps(t, over, "rename a to b; rename d to e; rename b to x; rename e to y", "rename b to x; rename a to b; rename e to y; rename d to e")
	checkSteps(t, over, "rename a to x; rename b to y", "rename a to x; rename b to y")
	checkSteps(t, "", "rename a to b; rename b to c", "rename b to c; rename a to b")
}

// Circles of two and of more, whose least Name goes aside and comes back.
func TestP24_3CirclesOfRenames(t *testing.T) {
	over := "a 1 9; b 2 9; c 3 9; d 4 9; e 5 9"
	checkSteps(t, over, "rename b to a; rename a to b", "rename a to ~1; rename b to a; rename ~1 to b")
	checkSteps(t, over, "rename a to b; rename b to c; rename c to a", "rename a to ~1; rename c to a; rename b to c; rename ~1 to b")
	checkSteps(t, over, "rename c to a; rename e to d; rename b to c; rename a to e; rename d to b", "rename a to ~1; rename c to a; rename b to c; rename d to b; rename e to d; rename ~1 to e")
	checkSteps(t, "", "rename a to b; rename b to a", "rename a to ~1; rename b to a; rename ~1 to b")
	checkSteps(t, "a.b 1 9; a-b 2 9", "rename a.b to a-b; rename a-b to a.b", "rename a-b to ~1; rename a.b to a-b; rename ~1 to a.b")
	checkSteps(t, "a 1 9; ab 2 9", "rename ab to a; rename a to ab", "rename a to ~1; rename ab to a; rename ~1 to ab")
	checkSteps(t, "~9 1 9; z 2 9", "rename ~9 to z; rename z to ~9", "rename z to ~1; rename ~9 to z; rename ~1 to ~9")
}

// Where the two stand in the numbering.
func TestP24_3WhereTheTwoStand(t *testing.T) {
	over := "a 1 9; b 2 9; c 3 9; d 4 9; e 5 9"
	checkSteps(t, over, "rename c to x; rename b to a; rename d to y; rename a to b; rename e to z",
		"rename c to x; rename d to y; rename a to ~1; rename b to a; rename ~1 to b; rename e to z")
	checkSteps(t, over, "rename c to x; rename a to b; rename d to y; rename b to a; rename e to z",
		"rename c to x; rename a to ~1; rename d to y; rename b to a; rename ~1 to b; rename e to z")
	checkSteps(t, over, "snap s of b; rename b to a; rename d to y; rename a to b", "rename d to y; rename a to ~1; rename b to a; rename ~1 to b; snap s of b")
}

// Several circles at once: the least Name has the least number.
func TestP24_3SeveralCircles(t *testing.T) {
	over := "a 1 9; b 2 9; c 3 9; d 4 9; e 5 9; f 6 9"
	checkSteps(t, over, "rename d to c; rename c to d; rename b to a; rename a to b", "rename c to ~2; rename d to c; rename ~2 to d; rename a to ~1; rename b to a; rename ~1 to b")
	checkSteps(t, over, "rename a to f; rename f to a; rename b to e; rename e to b; rename c to d; rename d to c",
		"rename a to ~1; rename f to a; rename ~1 to f; rename b to ~2; rename e to b; rename ~2 to e; rename c to ~3; rename d to c; rename ~3 to d")
	checkSteps(t, over, "rename e to b; rename f to x; rename b to e; rename d to f; rename c to a; rename a to c",
		"rename f to x; rename b to ~2; rename e to b; rename ~2 to e; rename d to f; rename a to ~1; rename c to a; rename ~1 to c")
}

// A name aside is one that no volume has, no operation names and no circle ahead has taken.
func TestP24_3NamesAside(t *testing.T) {
	over := "a 1 9; b 2 9; c 3 9; d 4 9; ~2 5 9"
	two, out := "rename a to b; rename b to a; rename c to d; rename d to c", "rename a to ~%; rename b to a; rename ~% to b; rename c to ~#; rename d to c; rename ~# to d"
	of := func(first string, second string) string {
		return strings.NewReplacer("%", first, "#", second).Replace(out)
	}
	checkSteps(t, over, two, of("1", "3"))
	checkSteps(t, over, two+"; snap ~1 of a", of("3", "4")+"; snap ~1 of a")
	checkSteps(t, over, two+"; clone x of ~1", of("3", "4")+"; clone x of ~1")
	checkSteps(t, over, two+"; fill ~1 0 1; create ~3 1; fill ~03 0 1", of("4", "5")+"; create ~3 1; fill ~1 0 1; fill ~03 0 1")
	checkSteps(t, over, two+"; rename ~2 to ~1", of("3", "4")+"; rename ~2 to ~1")
	checkSteps(t, over, two+"; delete ~2; rename ~3 to x", of("1", "4")+"; rename ~3 to x; delete ~2")
	checkSteps(t, over, "rename ~2 to ~1; rename ~1 to ~2", "rename ~1 to ~3; rename ~2 to ~1; rename ~3 to ~2")
}

// A rename of a name to itself stands in nobody's way: no other one has to be ahead of it.
func TestP24_3RenameToItself(t *testing.T) {
	checkSteps(t, "a 1 9; b 2 9", "rename a to a", "rename a to a")
	checkSteps(t, "a 1 9; b 2 9; c 3 9", "rename b to c; rename a to a; rename c to b", "rename b to ~1; rename a to a; rename c to b; rename ~1 to c")
}

// A delete of what comes from another stands ahead of that one's.
func TestP24_3Deletes(t *testing.T) {
	over := "a 1 9; b 2 9 1; c 3 9 2; d 4 9 1; e 5 9; f 7 9 6"
	checkSteps(t, over, "delete a; delete b; delete c; delete d", "delete c; delete b; delete d; delete a")
	checkSteps(t, over, "delete a; delete c", "delete a; delete c")
	checkSteps(t, over, "delete a; delete b", "delete b; delete a")
	checkSteps(t, over, "delete a; delete f; delete e; delete d", "delete f; delete e; delete d; delete a")
	checkSteps(t, over, "delete x; delete y", "delete x; delete y")
}

// Names that come from others behind the renames.
func TestP24_3DeletesBehindTheRenames(t *testing.T) {
	over := "a 1 9; b 2 9 1; c 3 9 2"
	checkSteps(t, over, "delete x; delete b; rename a to x", "rename a to x; delete b; delete x")
	checkSteps(t, over, "delete b; delete a; rename a to b; rename b to a", "rename a to ~1; rename b to a; rename ~1 to b; delete a; delete b")
	checkSteps(t, over, "delete b; delete x; rename b to x", "rename b to x; delete b; delete x")
	checkSteps(t, over, "delete x; delete c; delete a; rename b to x", "rename b to x; delete c; delete x; delete a")
}

// Snapshots that are made by the same operations, and go.
func TestP24_3DeletesOfSnapshots(t *testing.T) {
	over := "a 1 9; b 2 9 1"
	checkSteps(t, over, "delete a; delete b; delete s; snap s of a", "snap s of a; delete b; delete s; delete a")
	checkSteps(t, over, "delete x; delete s2; snap s2 of x; rename a to x", "rename a to x; snap s2 of x; delete s2; delete x")
	checkSteps(t, over, "delete a; delete s; delete r; snap s of a; snap r of s", "snap s of a; snap r of s; delete r; delete s; delete a")
	checkSteps(t, over, "delete s; delete r; snap s of a; snap r of s", "snap s of a; snap r of s; delete r; delete s")
	checkSteps(t, over, "delete a; delete r; snap s of a; snap r of s", "snap s of a; snap r of s; delete a; delete r")
	checkSteps(t, over, "delete s; delete r; delete a; snap r of a; snap r of s", "snap r of a; snap r of s; delete s; delete r; delete a")
	checkSteps(t, over, "delete s; delete r; snap r of a; snap r of s; snap r of q", "snap r of a; snap r of s; snap r of q; delete s; delete r")
	checkSteps(t, over, "delete s; delete r; delete a; create r 5; clone s of r; snap r of s", "snap r of s; delete r; delete s; delete a; create r 5; clone s of r")
}

// What v has by the name counts, not the snapshot of that name; and clones count nothing.
func TestP24_3DeletesByWhatIsThere(t *testing.T) {
	over := "a 1 9; b 2 9 1; c 3 9"
	checkSteps(t, over, "delete a; delete c; delete b; snap b of c", "snap b of c; delete c; delete b; delete a")
	checkSteps(t, over, "delete a; delete c; snap c of a", "snap c of a; delete a; delete c")
	checkSteps(t, over, "delete a; delete n; clone n of a", "delete a; delete n; clone n of a")
	checkSteps(t, over, "delete a; delete n; create n 5", "delete a; delete n; create n 5")
}

// Deletes of one name, and of what comes from itself.
func TestP24_3DeletesOfOneName(t *testing.T) {
	over := "a 1 9; b 2 9 1"
	checkSteps(t, over, "delete a; delete a", "delete a; delete a")
	checkSteps(t, over, "delete a; delete b; delete a; delete b", "delete b; delete b; delete a; delete a")
	checkSteps(t, over, "delete s; delete s; snap s of s", "snap s of s; delete s; delete s")
	checkSteps(t, over, "delete s; snap s of s", "snap s of s; delete s")
	checkSteps(t, over, "delete s; delete r; delete r; delete s; snap r of s; snap s of s", "snap r of s; snap s of s; delete r; delete r; delete s; delete s")
}

// A create or clone stands ahead of the clones of its name.
func TestP24_3Clones(t *testing.T) {
	over := "a 1 9"
	checkSteps(t, over, "clone c of b; clone b of a; create d 1", "clone b of a; clone c of b; create d 1")
	checkSteps(t, over, "clone c of b; clone b of z; create z 1", "create z 1; clone b of z; clone c of b")
	checkSteps(t, over, "clone e of d; clone d of c; clone c of b; clone b of a; clone f of d", "clone b of a; clone c of b; clone d of c; clone e of d; clone f of d")
	checkSteps(t, over, "clone b of a; create a 5; clone c of a; delete a", "delete a; create a 5; clone b of a; clone c of a")
	checkSteps(t, over, "clone c of b; create b 5; clone b of a; create x 4; create b 3", "create b 5; clone b of a; create x 4; create b 3; clone c of b")
	checkSteps(t, over, "clone c of s; snap s of a", "snap s of a; clone c of s")
	checkSteps(t, over, "clone c of s; clone d of s; create s 4; create s 5", "create s 4; create s 5; clone c of s; clone d of s")
}

// Each way to ErrOrderCircle.
func TestP24_3Circles(t *testing.T) {
	over := "a 1 9; b 2 9 1"
	for _, text := range []string{
		"clone n of n", "clone a of a", "clone n of m; clone m of n", "clone n of m; clone m of l; clone l of n; create x 5", "create x 5; resize a 3; clone n of x; clone m of k; clone k of m",
		"create n 5; clone n of n", "clone n of m; create n 5; clone m of n",
		"snap s of r; snap r of s; delete s; delete r", "snap s of r; snap r of q; snap q of s; delete s; delete q; delete r", "delete a; snap s of r; snap r of s; delete s; delete s; delete r",
	} {
		checkRefused(t, over, steps(t, text), api.ErrOrderCircle)
	}
	checkSteps(t, over, "snap s of r; snap r of q; snap q of s; delete s; delete q", "snap s of r; snap r of q; snap q of s; delete q; delete s")
	checkSteps(t, over, "clone n of m; snap m of n", "snap m of n; clone n of m")
}

// Each kind that has no place in the order, and what layer 16 refuses, alone and behind others, a circle among them.
func TestP24_3StepsThatMayNotBe(t *testing.T) {
	long := strings.Repeat("a", 32)
	for _, o := range []api.Op{
		{Kind: api.OpRestore, Name: "a", Other: "b"}, {Kind: api.OpWrite, Name: "a", From: 1, Data: make([]byte, 512)}, {Kind: api.OpDiscard, Name: "a", To: 1}, {Kind: api.OpExtend, To: 200},
		{}, {Kind: 12, Name: "a"}, {Kind: -1, Name: "a"}, {Kind: 0, Name: "a", Other: "b"}, {Kind: api.OpDelete, Name: "A"}, {Kind: api.OpDelete}, {Kind: api.OpDelete, Name: "a", To: 1},
		{Kind: api.OpDelete, Name: "a", Data: []byte{0}}, {Kind: api.OpDelete, Name: "a", Other: "b"}, {Kind: api.OpCreate, Name: "x"}, {Kind: api.OpCreate, Name: "x", To: api.MaxSize + 1},
		{Kind: api.OpCreate, Name: "x", To: 5, From: 1}, {Kind: api.OpResize, Name: "a", To: -1}, {Kind: api.OpResize, Name: "a"}, {Kind: api.OpFill, Name: "a", To: 33}, {Kind: api.OpFill, Name: "a", From: 3, To: 2},
		{Kind: api.OpFill, Name: "a", From: -1, To: 2}, {Kind: api.OpSnap, Name: "s", Other: "A"}, {Kind: api.OpSnap, Name: "s"}, {Kind: api.OpClone, Other: "a"}, {Kind: api.OpClone, Name: "c", Other: "a", To: 1},
		{Kind: api.OpRename, Name: "a"}, {Kind: api.OpRename, Name: "a", Other: long}, {Kind: api.OpRename, Name: long, Other: "b"}, {Kind: api.OpRename, Name: "a", Other: "x", From: 1},
	} {
		checkRefused(t, "a 1 9; b 2 9", []api.Op{o}, api.ErrOrderStep)
		for _, ahead := range []string{"create n 5; fill n 0 3", "clone n of m; clone m of n", "clone n of n"} {
			checkRefused(t, "a 1 9; b 2 9", append(steps(t, ahead), o), api.ErrOrderStep)
			checkRefused(t, "a 1 9; b 2 9", append([]api.Op{o}, steps(t, ahead)...), api.ErrOrderStep)
		}
	}
	checkSteps(t, "", "create x 262144; fill x 0 32; resize x 262144; fill x 262112 262144", "create x 262144; resize x 262144; fill x 0 32; fill x 262112 262144")
}

// Renames behind which two volumes could have one name.
func TestP24_3RenamesThatMayNotBe(t *testing.T) {
	over := "a 1 9; b 2 9; c 3 9"
	for _, text := range []string{
		"rename a to b", "rename a to x; rename a to y", "rename a to x; rename b to x", "rename a to x; rename a to x", "rename x to a", "rename x to y; rename y to b", "rename x to z; rename y to z",
		"rename a to b; rename b to c", "rename a to b; rename b to a; rename x to c", "delete b; rename a to b", "rename a to b; delete b", "clone n of n; rename a to b", "rename a to a; rename a to x", "rename a to a; rename b to a",
	} {
		checkRefused(t, over, steps(t, text), api.ErrOrderStep)
	}
	checkSteps(t, over, "rename a to b; rename b to c; rename c to d", "rename c to d; rename b to c; rename a to b")
	checkSteps(t, over, "rename x to a; rename a to b; rename b to y", "rename b to y; rename a to b; rename x to a")
	checkSteps(t, over, "create x 5; rename a to x", "rename a to x; create x 5")
	checkSteps(t, over, "rename x to y; rename y to z", "rename y to z; rename x to y")
}
