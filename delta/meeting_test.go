package delta_test

import (
	"fmt"
	"testing"

	"cistern/api"
	"cistern/delta"
)

// pairs gives pairs by their logical and pool blocks, two by two.
func pairs(numbers ...int) []api.Pair {
	var out []api.Pair
	for i := 0; i < len(numbers); i += 2 {
		out = append(out, api.Pair{Logical: numbers[i], Block: numbers[i+1]})
	}
	return out
}

// Both maps' blocks come in the order of the logical ones, each once, with what each map has there.
func TestP12SideBySide(t *testing.T) {
	for _, c := range []struct {
		a, b []api.Pair
		want string
	}{
		{nil, nil, ""},
		{pairs(3, 30), nil, "3:{30 0} "},
		{nil, pairs(0, 9, 7, 8), "0:{0 9} 7:{0 8} "},
		{pairs(1, 10, 2, 20, 9, 90), pairs(0, 5, 2, 20, 9, 91, 10, 6), "0:{0 5} 1:{10 0} 2:{20 20} 9:{90 91} 10:{0 6} "},
	} {
		for range 2 {
			got := ""
			for l, both := range delta.SideBySide(c.a, c.b) {
				got += fmt.Sprintf("%d:%v ", l, both)
			}
			if got != c.want {
				t.Errorf("SideBySide(%v, %v) = %s; want %s", c.a, c.b, got, c.want)
			}
		}
	}
	for l := range delta.SideBySide(pairs(1, 10, 2, 20), pairs(2, 20, 3, 30)) {
		if l == 2 {
			break
		}
	}
}
