package tidy_test

import (
	"fmt"
	"testing"

	"cistern/api"
)

// Each kind of pair: alone, first, last and in the midst of a list.
func TestP25_1Pairs(t *testing.T) {
	for _, c := range []struct{ text, want string }{
		{"resize a 50; resize a 41", "resize a 41"}, {"resize a 30; resize a 20", "resize a 20"}, {"resize a 50; resize a 5", "resize a 5"},
		{"resize a 41; resize a 50", "resize a 50"}, {"resize a 50; resize a 60", "resize a 60"},
		{"rename a to z; rename z to y", "rename a to y"}, {"rename b to n9; rename n9 to a2", "rename b to a2"},
		{"discard a 0 2; discard a 2 4", "discard a 0 4"}, {"discard a 2 4; discard a 0 2", "discard a 0 4"}, {"discard c 0 40; discard c 20 50", "discard c 0 50"},
		{"discard c 3 5; discard c 0 50", "discard c 0 50"}, {"discard c 9 10; discard c 8 11", "discard c 8 11"}, {"discard a 0 1; discard a 1 40", "discard a 0 40"},
		{"fill b 0 4; fill b 4 8", "fill b 0 8"}, {"fill b 4 8; fill b 0 4", "fill b 0 8"}, {"fill b 0 16; fill b 16 32", "fill b 0 32"}, {"fill b 0 20; fill b 12 32", "fill b 0 32"},
		{"fill b 5 6; fill b 4 36", "fill b 4 36"}, {"fill b 38 70; fill b 39 40", "fill b 38 70"}, {"fill a 3 5; fill a 5 6", "fill a 3 6"},
		{"restore a from s; restore a from c", "restore a from c"}, {"restore a from s; restore a from s", "restore a from s"}, {"restore s from a; restore s from b", "restore s from b"},
	} {
		checkAmong(t, crowd(), c.text, c.want)
	}
	checkAmong(t, crowd(), "rename a to z; rename z to a", "")
	checkAmong(t, crowd(), "resize a 50; resize a 40", "")
}

// What looks like a pair and is none.
func TestP25_1NotAPair(t *testing.T) {
	for _, text := range []string{
		"resize a 20; resize a 30", "resize a 39; resize a 40", "resize a 39; resize a 41", "resize a 1; resize a 2", "resize a 30; resize c 20",
		"rename a to z; rename b to y", "rename a to z; rename b to a", "rename a to b2; rename b to z; rename b2 to y", "rename a to z; create a 5; rename a to y",
		"discard a 0 1; discard a 2 3", "discard a 2 3; discard a 0 1", "discard a 0 4; discard c 2 8", "discard c 0 10; discard c 11 50", "discard a 0 1; discard s 1 2",
		"fill b 0 1; fill b 2 3", "fill b 2 3; fill b 0 1", "fill b 0 16; fill b 16 33", "fill b 0 32; fill b 32 64", "fill b 16 33; fill b 0 16", "fill b 0 17; fill b 10 33",
		"fill b 0 32; fill b 1 33", "fill b 38 70; fill b 37 38", "fill b 0 4; fill a 4 6",
		"restore a from s; restore s from b", "restore a from s; restore b from s", "restore a from b; restore b from c",
		"discard a 0 2; fill a 2 5", "fill a 2 5; discard a 0 2", "resize a 50; discard a 0 2", "restore a from s; resize a 5", "resize a 5; restore a from s",
		"fill b 0 4; write b 4 0; fill b 5 8", "discard a 0 2; write s 0 1; discard a 2 4", "resize a 30; create n 5; resize a 20", "restore a from s; write s 0 1; restore a from s",
		"rename a to z; resize z 9; rename z to a", "rename a to z; write z 0 1; rename z to a",
		"create n 5; delete n", "snap n of s; delete n", "snap n of s; snap m of s", "extend 1001; extend 1002", "delete s; snap s of a",
	} {
		checkStays(t, crowd(), text)
		checkAmong(t, crowd(), text, text)
	}
}

// The same name that is another volume by then: the two do not stand beside one another, and what stands between does something.
func TestP25_1TheNameOfAnother(t *testing.T) {
	for _, text := range []string{
		"discard a 0 2; rename a to z; rename c to a; discard a 2 4",
		"fill a 4 5; rename a to z; rename b to a; fill a 5 6",
		"resize a 50; rename a to z; rename c to a; resize a 45",
		"restore a from c; rename a to z; rename b to a; restore a from c",
		"resize s 10; delete s; create s 30; resize s 20",
		"fill b 0 4; delete b; create b 9; fill b 4 8",
		"rename a to z; delete s; rename c to s; rename z to a",
	} {
		checkStays(t, crowd(), text)
	}
	checkOps(t, crowd(), "discard a 0 2; rename a to z; rename z to a; discard a 2 4", "discard a 0 4")
	checkOps(t, crowd(), "discard a 0 2; rename a to z; discard z 2 4", "discard a 0 2; rename a to z; discard z 2 4")
	// The first discard meets what a was, the second what has its name: nothing is mapped there.
	checkOps(t, crowd(), "discard a 0 2; rename a to z; rename b to a; discard a 2 4", "discard a 0 2; rename a to z; rename b to a")
}

// Two resizes of all sizes over volumes that map all, some and nothing.
func TestP25_1AllResizes(t *testing.T) {
	for _, mapped := range [][]int{nil, {0, 4}, {3, 4}, {0, 1}, {0, 1, 2, 3}} {
		v := api.View{Capacity: 9, Next: 2, Volumes: []api.Volume{{Name: "a", ID: 1, Size: 4, Mapped: ranges(mapped...)}}}
		for one := 1; one <= 6; one++ {
			for two := 1; two <= 6; two++ {
				checkList(t, v, list(t, fmt.Sprintf("resize a %d; resize a %d", one, two)))
				for three := 1; three <= 6; three++ {
					checkList(t, v, list(t, fmt.Sprintf("resize a %d; resize a %d; resize a %d", one, two, three)))
				}
			}
		}
	}
}

// Two ranges in all the ways that they can lie to one another, discarded and filled.
func TestP25_1AllPairsOfRanges(t *testing.T) {
	v := api.View{Capacity: 99, Next: 3, Volumes: []api.Volume{{Name: "a", ID: 1, Size: 7, Mapped: ranges(0, 7)}, {Name: "b", ID: 2, Size: 7}}}
	for from := range 8 {
		for to := from; to <= 7; to++ {
			for other := range 8 {
				for end := other; end <= 7; end++ {
					want := 2
					if other <= to && from <= end {
						want = 1
					}
					for _, form := range []string{"discard a %d %d; discard a %d %d", "fill b %d %d; fill b %d %d"} {
						text := fmt.Sprintf(form, from, to, other, end)
						if got := checkList(t, v, list(t, text)); from < to && other < end && len(got) != want {
							t.Errorf("Ops(%s) = %s; want %d", text, told(got), want)
						}
					}
				}
			}
		}
	}
}

// Fills that are together at most MaxFill blocks, and one more.
func TestP25_1FillsAtTheBound(t *testing.T) {
	v := api.View{Capacity: 300, Next: 2, Volumes: []api.Volume{{Name: "a", ID: 1, Size: 200}}}
	for from := range 3 {
		for cut := 1; cut < 32; cut++ {
			checkOps(t, v, fmt.Sprintf("fill a %d %d; fill a %d %d", from, from+cut, from+cut, from+32), fmt.Sprintf("fill a %d %d", from, from+32))
			checkOps(t, v, fmt.Sprintf("fill a %d %d; fill a %d %d", from+cut, from+32, from, from+cut), fmt.Sprintf("fill a %d %d", from, from+32))
			checkStays(t, v, fmt.Sprintf("fill a %d %d; fill a %d %d", from, from+cut, from+cut, from+33))
			checkStays(t, v, fmt.Sprintf("fill a %d %d; fill a %d %d", from+cut, from+33, from, from+cut))
			if cut > 1 {
				checkStays(t, v, fmt.Sprintf("fill a %d %d; fill a %d %d", from, from+cut, from+cut-1, from+33))
			}
		}
	}
	checkOps(t, v, "fill a 0 10; fill a 10 20; fill a 20 30; fill a 30 40; fill a 40 50", "fill a 0 30; fill a 30 50")
	// Discards have no such bound.
	v.Volumes[0].Mapped = ranges(0, 200)
	checkOps(t, v, "discard a 0 100; discard a 100 200", "discard a 0 200")
}

// What is written is read: no change lets go what another operation reads, or keeps what has gone.
func TestP25_1WhatIsRead(t *testing.T) {
	v := crowd()
	checkStays(t, v, "write a 35 7; resize a 35; resize a 40")
	checkOps(t, v, "write a 35 7; resize a 50; resize a 36", "write a 35 7; resize a 36")
	checkStays(t, v, "write a 3 7; discard a 3 4; fill a 3 4")
	checkOps(t, v, "write a 3 7; fill a 3 4; snap n of a; restore n from n; write a 3 8", "write a 3 7; snap n of a; write a 3 8")
	checkStays(t, v, "restore a from s; snap n of a; restore a from c")
	checkStays(t, v, "restore a from s; clone n of a; restore a from s")
	checkOps(t, v, "write s 1 9; restore a from c; restore a from s; write s 1 8", "write s 1 9; restore a from s; write s 1 8")
	checkStays(t, v, "restore a from b; restore b from a")
	checkStays(t, v, "restore b from a; restore a from c; restore c from b; restore b from c")
	checkOps(t, v, "rename a to z; rename z to y; rename b to a; rename y to b; write a 0 1; write b 0 2", "rename a to y; rename b to a; rename y to b; write a 0 1; write b 0 2")
	checkStays(t, v, "discard c 0 10; write c 5 0; discard c 3 20")
	checkStays(t, v, "fill b 0 4; snap n of b; fill b 4 8; write n 0 1")
}
