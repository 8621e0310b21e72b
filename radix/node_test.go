package radix

import (
	"bytes"
	"slices"
	"testing"

	"cistern/api"
	"cistern/field"
)

// Laid gives the block of a node, for tests that forge some.
func Laid(level int, block int, entries [api.Fan]int) []byte {
	laid, _ := (&node{spot: spot{level: level, block: block}, entries: entries}).laid()
	return laid
}

// filled gives a node of which entry i names what is handed in.
func filled(s spot, entry func(i int) int) *node {
	n := &node{spot: s}
	for i := range n.entries {
		n.entries[i] = entry(i)
	}
	return n
}

func TestP7NodesAsTheyAreLaid(t *testing.T) {
	for level := range api.Levels {
		for _, block := range []int{1, 2, 262144} {
			for _, n := range []*node{
				filled(spot{level: level, first: 8192, block: block}, func(i int) int { return i }),
				filled(spot{level: level, block: block}, func(i int) int { return 262144 - i }),
				filled(spot{level: level, block: block}, func(i int) int { return i / 63 }),
				filled(spot{level: level, block: block}, func(i int) int { return (64 - i) / 64 * 65536 }),
			} {
				laid, e := n.laid()
				if e != api.OK || len(laid) != api.BlockSize {
					t.Fatalf("a node is laid in %d bytes, %d", len(laid), e)
				}
				got, ok := nodeOf(n.spot, laid, 262144)
				if !ok || *got != *n {
					t.Errorf("the node %v is found as %v, %v", n, got, ok)
				}
				again, _ := got.laid()
				if !bytes.Equal(again, laid) {
					t.Errorf("the node %v is laid otherwise a second time", n)
				}
			}
		}
	}
}

func TestP7BlocksThatAreNoNode(t *testing.T) {
	n := filled(spot{level: 1, block: 7}, func(i int) int { return i })
	laid, _ := n.laid()
	none, _ := (&node{spot: n.spot}).laid()
	kind, number, body, _ := field.Unstamp(laid)
	short, _ := field.Stamp(kind, number, body[:189])
	long, _ := field.Stamp(kind, number, append(body, 0, 0, 0))
	for name, c := range map[string]struct {
		s     spot
		block []byte
		size  int
	}{
		"a level above":     {spot{level: 0, block: 7}, laid, 100},
		"a level below":     {spot{level: 2, block: 7}, laid, 100},
		"another block":     {spot{level: 1, block: 8}, laid, 100},
		"a smaller pool":    {n.spot, laid, 62},
		"no entries":        {n.spot, none, 100},
		"no bytes":          {n.spot, nil, 100},
		"zeros":             {n.spot, make([]byte, 512), 100},
		"too few bytes":     {n.spot, laid[:511], 100},
		"63 entries":        {n.spot, short, 100},
		"65 entries":        {n.spot, long, 100},
		"a byte is changed": {n.spot, append(laid[:100:100], append([]byte{9}, laid[101:]...)...), 100},
	} {
		if got, ok := nodeOf(c.s, c.block, c.size); ok || got != nil {
			t.Errorf("%s: it is taken for the node %v", name, got)
		}
	}
	if _, ok := nodeOf(n.spot, laid, 63); !ok {
		t.Errorf("a node that names the last block of a pool is refused")
	}
}

// The entries that lead to a range, held against those of each of its blocks.
func TestP7_10WhichEntriesLeadToARange(t *testing.T) {
	ends := []int{0, 1, 63, 64, 65, 127, 128, 4032, 4095, 4096, 4097, 4160, 4161, 8191, 8192, 8193, 12288, 262143, 262144}
	for _, s := range []spot{{level: 0}, {level: 1}, {level: 1, first: 4096}, {level: 2}, {level: 2, first: 64}, {level: 2, first: 4160}} {
		n := filled(s, func(i int) int { return i + 1 })
		for i, from := range ends {
			for _, to := range ends[i:] {
				var want, got []int
				for l := max(from, s.first); l < min(to, s.first+span(s.level)); l++ {
					if slot := (l - s.first) / span(s.level+1); len(want) == 0 || want[len(want)-1] != slot {
						want = append(want, slot)
					}
				}
				for slot, next := range n.spots(api.Range{From: from, To: to}) {
					got = append(got, slot)
					if next.level != s.level+1 || next.block != slot+1 || next.first != s.first+slot*span(s.level+1) {
						t.Errorf("entry %d of %v is %v", slot, s, next)
					}
				}
				if !slices.Equal(got, want) {
					t.Errorf("to %d..%d of %v the entries %v lead; want %v", from, to, s, got, want)
				}
			}
		}
	}
}

// How many new blocks a range takes where nothing is, counted one by one.
func TestP7_5AllNew(t *testing.T) {
	ends := []int{0, 1, 5, 63, 64, 65, 128, 4095, 4096, 4097, 4100, 8192, 8200}
	for _, s := range []spot{{level: 0}, {level: 1}, {level: 1, first: 4096}, {level: 2}, {level: 2, first: 64}, {level: 3, first: 5}} {
		for i, from := range ends {
			for _, to := range ends[i:] {
				want := map[[2]int]bool{}
				for l := max(from, s.first); l < min(to, s.first+span(s.level)); l++ {
					for level := s.level; level <= api.Levels; level++ {
						want[[2]int{level, l / span(level)}] = true
					}
				}
				if got := s.allNew(api.Range{From: from, To: to}); got != len(want) {
					t.Errorf("%d..%d of %v takes %d; want %d", from, to, s, got, len(want))
				}
			}
		}
	}
}
