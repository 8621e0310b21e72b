package cost_test

import (
	"math"
	"strings"
	"testing"

	"cistern/api"
)

func TestP26ExamplesInTheirOrder(t *testing.T) {
	check(t, write("a", 5), 4)
	check(t, create("a", 10), 0)
	check(t, remove("a"), 0)

	check(t, fill("a", 0, 1), 4)
	check(t, fill("a", 60, 92), 36)
	check(t, fill("a", 4090, 4100), 15)
	check(t, fill("a", 5, 5), 0)

	check(t, discard("a", 0, 64), 2)
	check(t, discard("a", 0, 65), 3)
	check(t, discard("a", 1, 8191), 5)

	check(t, resize("a", 10), 3)
	check(t, resize("a", 64), 2)
	check(t, resize("a", 4096), 1)
	check(t, resize("a", 262144), 0)

	checkNone(t, api.Op{Kind: 12}, api.ErrCostKind)
	checkNoAll(t, list(write("a", 5), api.Op{}), api.ErrCostKind)
	checkAll(t, nil, 0)
}

func TestP26_1EachKind(t *testing.T) {
	for kind, o := range map[int]api.Op{
		1: create("a", 262144), 2: snap("s", "a"), 3: clone("c", "a"), 5: rename("a", "b"), 6: remove("a"), 7: restore("a", "s"), 11: extend(262144),
	} {
		if o.Kind != kind {
			t.Fatalf("%s is of kind %d", told(o), o.Kind)
		}
		check(t, o, 0)
	}
	check(t, restore("a", "a"), 0)
	for _, at := range edges()[:len(edges())-1] {
		check(t, write("a", at), 4)
	}
	check(t, api.Op{Kind: 4, Name: "a", To: 1}, 3)
	check(t, api.Op{Kind: 9, Name: "a", From: 1, To: 2}, 3)
	check(t, api.Op{Kind: 10, Name: "a", From: 1, To: 2}, 4)
}

func TestP26_1Kinds(t *testing.T) {
	for _, kind := range []int{0, 12, -1, 13, 99, 256 + 8, 1<<32 + 8, math.MaxInt, math.MinInt} {
		checkNone(t, api.Op{Kind: kind}, api.ErrCostKind)
		// It is the kind, whatever else stands there.
		checkNone(t, api.Op{Kind: kind, Name: "A", Other: "B", From: -1, To: -1, Data: []byte{1}}, api.ErrCostKind)
	}
}

func TestP26_1WhatMayNotBe(t *testing.T) {
	short := write("a", 5)
	short.Data = short.Data[:511]
	spare := resize("a", 10)
	spare.From = 1
	with := discard("a", 0, 10)
	with.Data = []byte{0}
	for _, x := range []struct {
		o    api.Op
		want api.Errno
	}{
		{spare, api.ErrActForm}, {with, api.ErrActForm},
		{api.Op{Kind: api.OpCreate, Name: "A", To: 10, From: 1}, api.ErrActForm}, {api.Op{Kind: api.OpDelete, Name: "a", Other: "b"}, api.ErrActForm}, {api.Op{Kind: api.OpExtend, Name: "a", To: 10}, api.ErrActForm},
		{create("A", 0), api.ErrActName}, {resize("", 10), api.ErrActName}, {remove(strings.Repeat("a", 32)), api.ErrActName}, {rename("a", "1"), api.ErrActName}, {snap("s", ""), api.ErrActName},
		{fill("", 0, 33), api.ErrActName}, {discard("A", 3, 2), api.ErrActName}, {api.Op{Kind: api.OpWrite, Name: "A"}, api.ErrActName},
		{short, api.ErrActData}, {api.Op{Kind: api.OpWrite, Name: "a", From: -1}, api.ErrActData},
		{create("a", 0), api.ErrActSize}, {create("a", 262145), api.ErrActSize}, {resize("a", 0), api.ErrActSize}, {resize("a", -1), api.ErrActSize}, {resize("a", 262145), api.ErrActSize},
		{resize("a", math.MaxInt), api.ErrActSize}, {resize("a", math.MinInt), api.ErrActSize}, {extend(0), api.ErrActSize}, {extend(262145), api.ErrActSize},
		{write("a", -1), api.ErrActRange}, {write("a", 262144), api.ErrActRange}, {write("a", math.MaxInt), api.ErrActRange},
		{discard("a", -1, 5), api.ErrActRange}, {discard("a", -64, 64), api.ErrActRange}, {discard("a", 0, 262145), api.ErrActRange}, {discard("a", 4, 3), api.ErrActRange},
		{discard("a", math.MinInt, math.MaxInt), api.ErrActRange}, {discard("a", -1, -1), api.ErrActRange}, {discard("a", 262145, 262145), api.ErrActRange},
		{fill("a", 0, 33), api.ErrActRange}, {fill("a", -1, 5), api.ErrActRange}, {fill("a", 262143, 262145), api.ErrActRange}, {fill("a", 4, 3), api.ErrActRange}, {fill("a", math.MinInt, math.MaxInt), api.ErrActRange},
	} {
		checkNone(t, x.o, x.want)
		checkNoAll(t, list(x.o), x.want)
	}
}

func TestP26_1Fills(t *testing.T) {
	for _, x := range []struct{ from, to, want int }{
		{0, 0, 0}, {64, 64, 0}, {262144, 262144, 0}, {262143, 262143, 0}, {4096, 4096, 0},
		// Within one span of the lowest level: up to its end, one block less, one more.
		{0, 32, 35}, {32, 64, 35}, {32, 63, 34}, {33, 64, 34}, {33, 65, 36}, {64, 96, 35}, {63, 64, 4}, {64, 65, 4}, {63, 65, 6},
		// Over an edge of the next one.
		{4064, 4096, 35}, {4095, 4096, 4}, {4096, 4097, 4}, {4095, 4097, 7}, {4080, 4112, 37}, {4065, 4097, 37}, {8191, 8193, 7},
		// Up to the end.
		{262112, 262144, 35}, {262143, 262144, 4}, {262064, 262096, 36},
	} {
		check(t, fill("a", x.from, x.to), x.want)
	}
}

func TestP26_1Discards(t *testing.T) {
	for _, x := range []struct{ from, to, want int }{
		{0, 0, 0}, {5, 5, 0}, {64, 64, 0}, {4096, 4096, 0}, {262144, 262144, 0}, {262143, 262143, 0},
		// Within one span of the lowest level, and just it: one block less, one more, on either side.
		{1, 2, 3}, {0, 1, 3}, {63, 64, 3}, {0, 63, 3}, {1, 64, 3}, {0, 64, 2}, {64, 128, 2}, {63, 128, 3}, {64, 129, 3}, {65, 128, 3}, {64, 127, 3}, {1, 63, 3},
		// Over one of its edges, over several.
		{63, 65, 4}, {1, 127, 4}, {1, 128, 3}, {0, 128, 2}, {0, 192, 2}, {64, 4096, 2}, {0, 4032, 2}, {1, 4095, 4}, {1, 4033, 4}, {65, 4032, 3},
		// Just a span of the middle level, and near it.
		{0, 4096, 1}, {4096, 8192, 1}, {0, 4095, 3}, {1, 4096, 3}, {0, 4097, 3}, {4095, 8192, 3}, {4096, 8193, 3}, {4032, 8192, 2}, {4096, 8256, 2}, {4160, 8192, 2},
		// Over its edges.
		{4095, 4097, 5}, {4032, 4160, 3}, {4032, 4161, 4}, {1, 8191, 5}, {1, 8192, 3}, {0, 8192, 1}, {64, 8128, 3}, {4096, 262080, 2}, {1, 262080, 4}, {64, 262080, 3},
		// Up to the end: the root's span, and near it.
		{0, 262144, 0}, {1, 262144, 3}, {0, 262143, 3}, {1, 262143, 5}, {64, 262144, 2}, {0, 262080, 2}, {4096, 262144, 1}, {0, 258048, 1}, {262143, 262144, 3}, {262080, 262144, 2}, {258048, 262144, 1},
	} {
		check(t, discard("a", x.from, x.to), x.want)
	}
}

func TestP26_1Resizes(t *testing.T) {
	for _, x := range []struct{ to, want int }{
		{1, 3}, {63, 3}, {64, 2}, {65, 3}, {127, 3}, {128, 2}, {129, 3}, {4032, 2}, {4095, 3}, {4096, 1}, {4097, 3}, {4160, 2}, {8191, 3}, {8192, 1}, {8193, 3},
		{131072, 1}, {258047, 3}, {258048, 1}, {258049, 3}, {262079, 3}, {262080, 2}, {262081, 3}, {262143, 3}, {262144, 0},
	} {
		check(t, resize("a", x.to), x.want)
	}
}

func TestP26_2All(t *testing.T) {
	checkAll(t, list(write("a", 5)), 4)
	checkAll(t, list(remove("a")), 0)
	checkAll(t, list(create("a", 10), write("a", 5), write("a", 5), fill("a", 0, 9), snap("s", "a"), discard("a", 1, 65), resize("s", 64), remove("a")), 4+4+12+4+2)
	// The pool is not looked at: neither what is there nor whether it may be behind what stands ahead.
	checkAll(t, list(resize("a", 262143), resize("a", 262143), fill("z", 262112, 262144), remove("a"), write("a", 0), create("a", 1), extend(1)), 3+3+35+4)
}

func TestP26_2TheFirstError(t *testing.T) {
	fine := list(write("a", 5), create("b", 1))
	bad := list(api.Op{Kind: 12}, create("A", 1), resize("a", 0), fill("a", 0, 33), api.Op{Kind: api.OpWrite, Name: "a"}, api.Op{Kind: api.OpDelete, Name: "a", To: 1})
	errors := []api.Errno{api.ErrCostKind, api.ErrActName, api.ErrActSize, api.ErrActRange, api.ErrActData, api.ErrActForm}
	for i, one := range bad {
		checkNoAll(t, list(one), errors[i])
		checkNoAll(t, append(list(one), fine...), errors[i])
		checkNoAll(t, append(append(list(), fine...), one), errors[i])
		for _, other := range bad {
			checkNoAll(t, append(append(list(), fine...), one, other, fine[0]), errors[i])
		}
	}
}

func TestP26_3Fits(t *testing.T) {
	ops := list(create("a", 100), fill("a", 60, 92), resize("a", 64))
	for free, want := range map[int]bool{-1: false, 0: false, 4: false, 37: false, 38: true, 39: true, 262144: true, math.MinInt: false, math.MaxInt: true} {
		checkFits(t, free, ops, want)
	}
	for _, o := range list(write("a", 5), fill("a", 4090, 4100), discard("a", 1, 8191), resize("a", 10)) {
		want := map[int]int{api.OpWrite: 4, api.OpFill: 15, api.OpDiscard: 5, api.OpResize: 3}[o.Kind]
		checkFits(t, want, list(o), true)
		checkFits(t, want-1, list(o), false)
		checkFits(t, 2*want, list(o, o), true)
		checkFits(t, 2*want-1, list(o, o), false)
	}
	for _, o := range list(create("a", 5), remove("a"), discard("a", 0, 262144), resize("a", 262144), fill("a", 7, 7)) {
		checkFits(t, 0, list(o), true)
		checkFits(t, -1, list(o), false)
	}
	checkFits(t, 0, nil, true)
	checkFits(t, -1, nil, false)
}
