package tidy_test

import (
	"bytes"
	"fmt"
	"slices"
	"strconv"
	"strings"
	"testing"

	"cistern/api"
	"cistern/op"
)

// ranges gives ranges of their ends: 0, 4, 5, 6 is 0 to 4 and 5 to 6.
func ranges(ends ...int) []api.Range {
	var out []api.Range
	for i := 0; i < len(ends); i += 2 {
		out = append(out, api.Range{From: ends[i], To: ends[i+1]})
	}
	return out
}

// example is the chapter's view: a, and a snapshot s of it.
func example() api.View {
	return api.View{Capacity: 100, Free: 80, Next: 3, Volumes: []api.Volume{
		{Name: "a", ID: 1, Size: 10, Mapped: ranges(0, 4)},
		{Name: "s", ID: 2, Size: 10, Origin: 1, Kind: api.KindSnap, Mapped: ranges(0, 3)},
	}}
}

// crowd is a view with volumes of all sorts: a (with a child), b (nothing mapped), c (all mapped), p (Partial), s (a snapshot of a),
// and w, which stands aside.
func crowd() api.View {
	return api.View{Capacity: 1000, Free: 60, Next: 20, Volumes: []api.Volume{
		{Name: "a", ID: 1, Size: 40, Mapped: ranges(0, 4, 6, 7, 30, 40)},
		{Name: "b", ID: 4, Size: 70},
		{Name: "c", ID: 9, Size: 50, Origin: 2, Mapped: ranges(0, 50)},
		{Name: "p", ID: 5, Size: 40, Partial: true, Mapped: ranges(0, 2)},
		{Name: "s", ID: 3, Size: 20, Origin: 1, Kind: api.KindSnap, Mapped: ranges(0, 3)},
		{Name: "w", ID: 6, Size: 9, Mapped: ranges(5, 6)},
	}}
}

// data gives a block of one byte.
func data(b int) []byte { return bytes.Repeat([]byte{byte(b)}, api.BlockSize) }

// list gives the operations of a text such as layer 16 prints, with "; " for each end of a line, and of a write one number in the
// place of its data: all bytes are that.
func list(t *testing.T, text string) []api.Op {
	t.Helper()
	var out []api.Op
	for _, line := range strings.Split(text, "; ") {
		words := strings.Fields(line)
		if len(words) == 4 && words[0] == "write" {
			at, _ := strconv.Atoi(words[2])
			b, _ := strconv.Atoi(words[3])
			out = append(out, api.Op{Kind: api.OpWrite, Name: words[1], From: at, Data: data(b)})
		} else if len(words) > 0 {
			ops, _, e := op.Parse(line + "\n")
			if e != api.OK {
				t.Fatalf("Parse(%q) = %d", line, e)
			}
			out = append(out, ops...)
		}
	}
	return out
}

// told tells operations likewise; of one that layer 16 refuses all fields.
func told(ops []api.Op) string {
	var parts []string
	for _, o := range ops {
		text, e := op.Print([]api.Op{o})
		switch {
		case e != api.OK:
			text = fmt.Sprint(o)
		case o.Kind == api.OpWrite && bytes.Equal(o.Data, data(int(o.Data[0]))):
			text = fmt.Sprintf("write %s %d %d", o.Name, o.From, o.Data[0])
		}
		parts = append(parts, strings.TrimSuffix(text, "\n"))
	}
	return strings.Join(parts, "; ")
}

// toldView tells a view: capacity, free, next; of each volume its name, ID, size, origin, kind, ranges, and half, if it is Partial.
func toldView(v api.View) string {
	parts := []string{fmt.Sprint(v.Capacity, v.Free, v.Next)}
	for _, x := range v.Volumes {
		text := fmt.Sprintf("%s %d %d %d %d", x.Name, x.ID, x.Size, x.Origin, x.Kind)
		for _, r := range x.Mapped {
			text += fmt.Sprintf(" %d..%d", r.From, r.To)
		}
		if x.Partial {
			text += " half"
		}
		parts = append(parts, text)
	}
	return strings.Join(parts, "; ")
}

// isSame tells whether two lists are of the same operations, in their order.
func isSame(a []api.Op, b []api.Op) bool { return slices.EqualFunc(a, b, isSameOp) }

func isSameOp(a api.Op, b api.Op) bool {
	return bytes.Equal(a.Data, b.Data) && a.Kind == b.Kind && a.Name == b.Name && a.Other == b.Other && a.From == b.From && a.To == b.To
}

// drawing draws what looks like chance and is the same in each run.
type drawing struct{ seed uint32 }

// below draws from 0 up to and without most.
func (d *drawing) below(most int) int {
	d.seed = d.seed*1664525 + 1013904223
	high := uint64(d.seed >> 8)
	d.seed = d.seed*1664525 + 1013904223
	return int((high<<24 | uint64(d.seed>>8)) % uint64(most))
}

// text draws one of some texts.
func (d *drawing) text(of ...string) string { return of[d.below(len(of))] }

// number draws one of some numbers.
func (d *drawing) number(of ...int) int { return of[d.below(len(of))] }
