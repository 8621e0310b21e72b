package order_test

import (
	"fmt"
	"slices"
	"strconv"
	"strings"
	"testing"

	"cistern/api"
	"cistern/op"
	"cistern/order"
)

// edges gives edges of their ends: 2, 0, 3, 0 is 2→0 and 3→0.
func edges(ends ...int) []api.Edge {
	var out []api.Edge
	for i := 0; i < len(ends); i += 2 {
		out = append(out, api.Edge{Before: ends[i], After: ends[i+1]})
	}
	return out
}

// chain gives the edges of a chain of things, the last one first.
func chain(count int) []api.Edge {
	var out []api.Edge
	for i := 1; i < count; i++ {
		out = append(out, api.Edge{Before: i, After: i - 1})
	}
	return out
}

// ring gives the edges of a circle of things from one number up to and without another.
func ring(from int, to int) []api.Edge {
	var out []api.Edge
	for i := from; i < to; i++ {
		out = append(out, api.Edge{Before: i, After: i + 1})
	}
	out[len(out)-1].After = from
	return out
}

// rising gives the numbers from 0 on.
func rising(count int) []int {
	var out []int
	for i := range count {
		out = append(out, i)
	}
	return out
}

// checkOrder holds the order of some things, and that there is no circle.
func checkOrder(t *testing.T, n int, es []api.Edge, want ...int) {
	t.Helper()
	if got, e := order.Order(n, es); !slices.Equal(got, want) || e != api.OK {
		t.Errorf("Order(%d, %v) = %v, %d; want %v", n, short(es), short(got), e, short(want))
	}
	if got, e := order.Circle(n, es); len(got) > 0 || e != api.OK {
		t.Errorf("Circle(%d, %v) = %v, %d", n, short(es), short(got), e)
	}
}

// checkCircle holds that no order is answered, but a circle, of some of these things, if any are told.
func checkCircle(t *testing.T, n int, es []api.Edge, of ...int) {
	t.Helper()
	if got, e := order.Order(n, es); len(got) > 0 || e != api.ErrOrderCircle {
		t.Errorf("Order(%d, %v) = %v, %d", n, short(es), short(got), e)
	}
	got, e := order.Circle(n, es)
	if e != api.OK || len(got) == 0 || !isCircle(got, es) {
		t.Errorf("Circle(%d, %v) = %v, %d", n, short(es), short(got), e)
	}
	for _, thing := range got {
		if len(of) > 0 && !slices.Contains(of, thing) {
			t.Errorf("Circle(%d, %v) = %v, which has %d", n, short(es), short(got), thing)
		}
	}
}

// isCircle tells whether things are different and each has an edge to the next one, the last one to the first.
func isCircle(things []int, es []api.Edge) bool {
	place := map[int]int{}
	for i, thing := range things {
		place[thing] = i
	}
	has := make([]int, len(things))
	for _, e := range es {
		i, ok := place[e.Before]
		if ok && things[(i+1)%len(things)] == e.After {
			has[i] = 1
		}
	}
	return len(place) == len(things) && !slices.Contains(has, 0)
}

// checkEdge holds that both calls refuse an edge or the number of things.
func checkEdge(t *testing.T, n int, es []api.Edge) {
	t.Helper()
	if got, e := order.Order(n, es); len(got) > 0 || e != api.ErrOrderEdge {
		t.Errorf("Order(%d, %v) = %v, %d", n, short(es), short(got), e)
	}
	if got, e := order.Circle(n, es); len(got) > 0 || e != api.ErrOrderEdge {
		t.Errorf("Circle(%d, %v) = %v, %d", n, short(es), short(got), e)
	}
}

// short leaves of a list what can be told.
func short[T any](list []T) []T { return list[:min(len(list), 20)] }

// view gives a view of a text such as "a 1 9; s 2 9 1": of each volume its name, ID, size and, if it has one, origin.
func view(t *testing.T, text string) api.View {
	t.Helper()
	v := api.View{Capacity: 100, Free: 50, Next: 50}
	for _, part := range strings.Split(text, ";") {
		words := strings.Fields(part)
		if len(words) == 0 {
			continue
		}
		x := api.Volume{Name: words[0], ID: number(t, words[1]), Size: number(t, words[2])}
		if len(words) > 3 {
			x.Origin = number(t, words[3])
		}
		v.Volumes = append(v.Volumes, x)
	}
	byName(v.Volumes)
	return v
}

func byName(volumes []api.Volume) {
	slices.SortFunc(volumes, func(a api.Volume, b api.Volume) int { return strings.Compare(a.Name, b.Name) })
}

func number(t *testing.T, word string) int {
	t.Helper()
	n, err := strconv.Atoi(word)
	if err != nil {
		t.Fatalf("%q is no number", word)
	}
	return n
}

// steps gives the operations of a text such as layer 16 prints, with "; " for each end of a line.
func steps(t *testing.T, text string) []api.Op {
	t.Helper()
	if text == "" {
		return nil
	}
	ops, at, e := op.Parse(strings.ReplaceAll(text, "; ", "\n") + "\n")
	if e != api.OK {
		t.Fatalf("Parse(%s) = %d, %d", text, at, e)
	}
	return ops
}

// toldSteps tells operations likewise; of those that layer 16 refuses all fields.
func toldSteps(ops []api.Op) string {
	text, e := op.Print(ops)
	if e != api.OK {
		return fmt.Sprint(ops)
	}
	return strings.TrimSuffix(strings.ReplaceAll(text, "\n", "; "), "; ")
}

// told tells a view.
func told(v api.View) string {
	parts := []string{fmt.Sprint(v.Capacity, v.Free, v.Next)}
	for _, x := range v.Volumes {
		parts = append(parts, fmt.Sprintf("%s %d %d %d %d %v %v", x.Name, x.ID, x.Size, x.Origin, x.Kind, x.Partial, x.Mapped))
	}
	return strings.Join(parts, "; ")
}

// checkSteps holds the order of steps over a view.
func checkSteps(t *testing.T, over string, text string, want string) {
	t.Helper()
	v := view(t, over)
	ops, e := order.Steps(v, steps(t, text))
	if got := toldSteps(ops); got != want || e != api.OK {
		t.Errorf("Steps(%s) over %s\n= %s, %d;\nwant %s", text, over, got, e, want)
	}
	checkAsModel(t, v, steps(t, text))
}

// checkRefused holds that steps over a view are refused, with nothing beside the error.
func checkRefused(t *testing.T, over string, ops []api.Op, want api.Errno) {
	t.Helper()
	v := view(t, over)
	if got, e := order.Steps(v, ops); len(got) > 0 || e != want {
		t.Errorf("Steps(%s) over %s = %s, %d; want %d", toldSteps(ops), over, toldSteps(got), e, want)
	}
	checkAsModel(t, v, ops)
}

// drawing draws what looks like chance and is the same in each run.
type drawing struct{ seed uint32 }

// below draws from 0 up to and without most.
func (d *drawing) below(most int) int {
	d.seed = d.seed*1664525 + 1013904223
	high := uint64(d.seed >> 8)
	d.seed = d.seed*1664525 + 1013904223
	return int((high<<24 | uint64(d.seed>>8)) % uint64(most))
}

// text draws one of some texts.
func (d *drawing) text(of ...string) string { return of[d.below(len(of))] }

// number draws one of some numbers.
func (d *drawing) number(of ...int) int { return of[d.below(len(of))] }
