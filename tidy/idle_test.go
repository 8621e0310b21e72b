package tidy_test

import (
	"fmt"
	"strings"
	"testing"

	"cistern/api"
	"cistern/tidy"
)

// checkAmong holds what is left of operations that stand alone, first, last and in the midst of others that have nothing to spare.
func checkAmong(t *testing.T, v api.View, text string, want string) {
	t.Helper()
	others := []string{"write w 5 1", "create zz 3", "write zz 1 1", "write w 6 1"}
	for i := range len(others) + 1 {
		with := append(append(append([]string{}, others[:i]...), text), others[i:]...)
		without := append(append([]string{}, others[:i]...), others[i:]...)
		if want != "" {
			without = append(append(append([]string{}, others[:i]...), want), others[i:]...)
		}
		checkOps(t, v, strings.Join(with, "; "), strings.Join(without, "; "))
	}
	checkOps(t, v, text, want)
}

// Each kind of what is idle: alone, first, last and in the midst.
func TestP25_1Idle(t *testing.T) {
	for _, text := range []string{
		"resize a 40", "resize s 20", "resize b 70", "resize c 50",
		"discard a 4 6", "discard a 5 6", "discard a 7 30", "discard a 9 12", "discard b 0 70", "discard b 69 70", "discard s 3 20", "discard s 19 20",
		"discard a 0 0", "discard a 4 4", "discard a 2 2", "discard a 40 40", "discard c 7 7", "discard c 50 50",
		"fill a 0 4", "fill a 0 1", "fill a 1 3", "fill a 6 7", "fill a 30 40", "fill a 39 40", "fill c 0 32", "fill c 18 50", "fill s 0 3",
		"fill a 0 0", "fill a 4 4", "fill a 5 5", "fill a 40 40", "fill b 0 0", "fill b 70 70",
		"restore a from a", "restore b from b", "restore s from s",
	} {
		checkAmong(t, crowd(), text, "")
		checkFirst(t, crowd(), text, "", 0)
		checkFirst(t, crowd(), "extend 1001; "+text+"; extend 1002", "extend 1001; extend 1002", 1)
		checkFirst(t, crowd(), "extend 1001; "+text, "extend 1001", 1)
	}
}

// What looks idle and is not, by one block or by what stands ahead of it.
func TestP25_1NotIdle(t *testing.T) {
	for _, text := range []string{
		"resize a 39", "resize a 41", "resize b 69", "resize s 40",
		"discard a 3 6", "discard a 4 7", "discard a 0 40", "discard a 6 7", "discard a 7 31", "discard a 29 31", "discard a 39 40", "discard c 49 50",
		"fill a 0 5", "fill a 3 7", "fill a 5 7", "fill a 6 8", "fill a 29 40", "fill a 3 31", "fill a 4 6", "fill b 0 1", "fill b 69 70", "fill s 0 4",
		"restore a from s", "restore s from a", "restore b from c",
		"resize a 39; write b 1 1; resize a 40", "discard a 0 4; write b 1 1; fill a 0 4", "fill b 0 4; write a 1 1; discard b 0 4", "discard a 6 7; write a 6 1; discard a 6 7",
		"write b 0 0; discard b 0 1", "write a 0 1", "write a 0 0", "write b 0 0",
	} {
		checkAmong(t, crowd(), text, text)
		checkStays(t, crowd(), text)
	}
}

// Idle at its place: by what the operations ahead of it have left, and of the volume that has the name by then.
func TestP25_1IdleByThen(t *testing.T) {
	v := crowd()
	checkOps(t, v, "resize a 41; write a 40 1; resize a 41", "resize a 41; write a 40 1")
	checkOps(t, v, "discard a 0 4; discard a 30 40; discard a 2 4", "discard a 0 4; discard a 30 40")
	checkOps(t, v, "fill a 4 6; discard a 6 7; fill a 2 5", "fill a 4 6; discard a 6 7")
	checkOps(t, v, "write a 4 0; fill a 2 5", "write a 4 0")
	checkOps(t, v, "write a 4 0; discard a 5 6", "write a 4 0")
	checkStays(t, v, "write a 4 0; discard a 4 6")
	checkOps(t, v, "restore a from s; resize a 20; discard a 3 20; fill a 0 3", "restore a from s")
	checkOps(t, v, "restore s from a; resize s 40; discard s 4 6; fill s 0 4", "restore s from a")
	checkOps(t, v, "create n 12; resize n 12; discard n 0 12; clone m of a; resize m 40; fill m 30 40; discard m 8 20", "create n 12; clone m of a")
	checkOps(t, v, "snap n of c; resize n 50; fill n 20 50; write c 3 1; fill n 3 4", "snap n of c; write c 3 1")
	checkOps(t, v, "rename s to z; rename b to s; resize s 70; discard s 0 70; fill z 0 3; resize z 20", "rename s to z; rename b to s")
	checkStays(t, v, "rename s to z; rename b to s; resize s 20")
	checkStays(t, v, "delete s; create s 30; resize s 20; fill s 0 3")
	checkStays(t, v, "delete b; rename a to b; discard b 0 3; discard b 5 7")
	checkOps(t, v, "delete b; rename a to b; discard b 4 6", "delete b; rename a to b")
	checkOps(t, v, "resize a 6; fill a 0 4; resize a 30; discard a 6 30", "resize a 6; resize a 30")
}

// Numbers at their bounds.
func TestP25_1IdleAtTheBounds(t *testing.T) {
	v := api.View{Capacity: 262144, Next: 4, Volumes: []api.Volume{
		{Name: "a", ID: 1, Size: 262144, Mapped: ranges(0, 33, 262080, 262144)}, {Name: "b", ID: 2, Size: 262144}, {Name: "c", ID: 3, Size: 1},
	}}
	for _, text := range []string{
		"resize a 262144", "resize c 1", "fill a 262112 262144", "fill a 262143 262144", "fill a 262144 262144", "fill a 0 32", "discard b 0 262144", "discard b 262143 262144",
		"discard b 262144 262144", "discard c 0 1", "discard c 1 1", "fill c 0 0",
	} {
		checkOps(t, v, text, "")
	}
	for _, text := range []string{
		"resize a 262143", "resize b 262143", "resize c 2", "resize c 262144", "fill b 262112 262144", "fill b 262143 262144", "fill c 0 1", "discard a 262143 262144", "discard a 0 1",
		"discard a 0 262144",
	} {
		checkStays(t, v, text)
	}
}

// Every range of a small volume, discarded and filled over every set of blocks that it may map.
func TestP25_1IdleOverAllSmallMaps(t *testing.T) {
	const size = 5
	for set := range 1 << size {
		v := api.View{Capacity: 9, Next: 2, Volumes: []api.Volume{{Name: "a", ID: 1, Size: size}}}
		for l := range size {
			if set>>l&1 == 0 {
				continue
			}
			if x := &v.Volumes[0]; l > 0 && set>>(l-1)&1 == 1 {
				x.Mapped[len(x.Mapped)-1].To++
			} else {
				x.Mapped = append(x.Mapped, api.Range{From: l, To: l + 1})
			}
		}
		for from := range size + 1 {
			for to := from; to <= size; to++ {
				checkList(t, v, list(t, fmt.Sprintf("discard a %d %d", from, to)))
				checkList(t, v, list(t, fmt.Sprintf("fill a %d %d", from, to)))
				checkList(t, v, list(t, fmt.Sprintf("write a 2 1; discard a %d %d; fill a %d %d", from, to, from, to)))
			}
		}
	}
}

// What Once spares of several idle ones is one at least, and Ops all of them.
func TestP25_1ManyIdle(t *testing.T) {
	text := "resize a 40; discard a 4 6; fill a 30 40; restore a from a; discard a 1 1; fill a 1 1"
	checkOps(t, crowd(), text, "")
	checkOps(t, crowd(), text+"; "+text, "")
	checkOps(t, crowd(), text+"; write a 0 1; "+text+"; write a 1 2; "+text, "write a 0 1; write a 1 2")
	if got, at, e := tidy.Once(crowd(), list(t, text)); len(got) >= 6 || at != 0 || e != api.OK {
		t.Errorf("Once = %s, %d, %d", told(got), at, e)
	}
}
