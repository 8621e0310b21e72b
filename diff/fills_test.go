package diff_test

import (
	"fmt"
	"strings"
	"testing"

	"cistern/api"
	"cistern/diff"
)

// one gives a view of one volume.
func one(size int, mapped ...int) api.View {
	return api.View{Capacity: 300, Free: 20, Next: 8, Volumes: []api.Volume{{Name: "a", ID: 7, Size: size, Mapped: ranges(mapped...)}}}
}

// checkFills holds the parts of a that are filled, if it shall be thick and of a size.
func checkFills(t *testing.T, v api.View, size int, want ...int) {
	t.Helper()
	var steps []string
	for i := 0; i < len(want); i += 2 {
		steps = append(steps, fmt.Sprintf("fill a %d %d", want[i], want[i+1]))
	}
	checkOf(t, v, fmt.Sprintf("volume a size %d thick", size), strings.Join(steps, "; "), api.OpFill)
}

func TestP23_1FillsOfNothingMapped(t *testing.T) {
	for _, size := range []int{1, 31, 32} {
		checkFills(t, one(size), size, 0, size)
		checkFills(t, one(100), size, 0, size)
	}
	for _, size := range []int{33, 63, 64} {
		checkFills(t, one(size), size, 0, 32, 32, size)
		checkFills(t, one(1), size, 0, 32, 32, size)
	}
	checkFills(t, one(65), 65, 0, 32, 32, 64, 64, 65)
	checkFills(t, one(5), 97, 0, 32, 32, 64, 64, 96, 96, 97)
}

func TestP23_1FillsAtTheSeams(t *testing.T) {
	checkFills(t, one(70, 0, 70), 70)
	checkFills(t, one(70, 0, 70), 1)
	checkFills(t, one(70, 0, 69), 70, 64, 70)
	checkFills(t, one(70, 1, 70), 70, 0, 32)
	checkFills(t, one(70, 0, 31, 32, 70), 70, 0, 32)
	checkFills(t, one(70, 0, 32, 33, 70), 70, 32, 64)
	checkFills(t, one(70, 0, 63, 64, 70), 70, 32, 64)
	checkFills(t, one(70, 0, 64, 65, 70), 70, 64, 70)
	checkFills(t, one(70, 0, 32), 70, 32, 64, 64, 70)
	checkFills(t, one(70, 0, 33), 70, 32, 64, 64, 70)
	checkFills(t, one(70, 0, 31), 70, 0, 32, 32, 64, 64, 70)
	checkFills(t, one(70, 32, 64), 70, 0, 32, 64, 70)
	checkFills(t, one(70, 31, 65), 70, 0, 32, 64, 70)
	checkFills(t, one(70, 33, 64), 70, 0, 32, 32, 64, 64, 70)
	checkFills(t, one(70, 32, 63), 70, 0, 32, 32, 64, 64, 70)
	checkFills(t, one(70, 64, 70), 70, 0, 32, 32, 64)
	checkFills(t, one(70, 63, 70), 70, 0, 32, 32, 64)
	checkFills(t, one(70, 65, 70), 70, 0, 32, 32, 64, 64, 70)
	checkFills(t, one(70, 0, 16, 17, 32, 33, 48, 49, 70), 70, 0, 32, 32, 64)
	checkFills(t, one(70, 0, 48, 49, 70), 70, 32, 64)
}

// What a volume maps at its birth is held against the parts of the size that it comes to.
func TestP23_1FillsOfAnotherSize(t *testing.T) {
	checkFills(t, one(33, 0, 33), 32)
	checkFills(t, one(33, 0, 32), 32)
	checkFills(t, one(33, 0, 32), 33, 32, 33)
	checkFills(t, one(32, 0, 32), 33, 32, 33)
	checkFills(t, one(32, 0, 32), 64, 32, 64)
	checkFills(t, one(40, 0, 40), 41, 32, 41)
	checkFills(t, one(40, 0, 40), 39)
	checkFills(t, one(40, 0, 35), 35)
	checkFills(t, one(40, 0, 35), 36, 32, 36)
	checkFills(t, one(40, 0, 34), 35, 32, 35)
	checkFills(t, one(80, 0, 20, 21, 80), 20)
	checkFills(t, one(80, 0, 20, 21, 80), 21, 0, 21)
	checkFills(t, one(10, 0, 4), 4)
	checkFills(t, one(10, 0, 4), 5, 0, 5)
}

func TestP23_1FillsOfSeveralVolumes(t *testing.T) {
	// By rising ID, not by name, and of those alone that a clause wants thick.
	checkOf(t, crowd(), "volume u size 33 thick; volume w size 50 thick; volume z size 80", "fill w 0 32; fill w 32 50; fill u 0 32; fill u 32 33", api.OpFill)
	checkOf(t, crowd(), "volume u size 100; volume q size 20; volume n size 50", "", api.OpFill)
	checkOf(t, crowd(), "volume a size 2 thick; volume t size 71 thick; volume b from w size 50; volume u size 1 thick", "fill u 0 1; fill t 64 71; fill a 0 2", api.OpFill)
	// What is Partial is wanted thick only where all is mapped.
	checkSteps(t, crowd(), "volume p size 40 thick", "")
	checkSteps(t, crowd(), "volume p size 40 thick; volume a size 1 thick", "create a 1; fill a 0 1")
}

// comb gives a view of so many volumes that map every second block of their size, and of the last of them all.
func comb(count int, size int) api.View {
	v := api.View{Capacity: 262144, Next: count + 1}
	for i := range count {
		x := api.Volume{Name: fmt.Sprintf("v%02d", i), ID: count - i, Size: size}
		for l := 0; l < size; l += 2 {
			x.Mapped = append(x.Mapped, api.Range{From: l, To: l + 1})
		}
		v.Volumes = append(v.Volumes, x)
	}
	v.Volumes[count-1].Mapped = ranges(0, size)
	return v
}

// Great volumes with many ranges: the list is not gone through for each part.
func TestP23_1FillsOfGreatVolumes(t *testing.T) {
	v := comb(20, 262144)
	text := "volume n from v03 size 262144 thick; volume m from v19 size 262144 thick"
	for i := range 20 {
		text += fmt.Sprintf("; volume v%02d size 262144 thick", i)
	}
	cs := plan(t, text)
	ops, e := diff.Steps(cs, v, goalOf(t, cs, v))
	if len(ops) != 2+20*8192 || e != api.OK {
		t.Fatalf("%d steps, %d", len(ops), e)
	}
	for i, o := range ops[2:] {
		name, from := fmt.Sprintf("v%02d", 18-i/8192), 32*(i%8192)
		if i >= 19*8192 {
			name = "n"
		}
		if o.Kind != api.OpFill || o.Name != name || o.From != from || o.To != from+32 || o.Other != "" || len(o.Data) > 0 {
			t.Fatalf("step %d is %v; want a fill of %s from %d", i, o, name, from)
		}
	}
}
