package scope_test

import (
	"fmt"
	"slices"
	"strings"
	"sync"
	"testing"

	"cistern/api"
	"cistern/scope"
)

// Nil and empty lists are one, in trees and in views.
func TestR1NoneAndEmpty(t *testing.T) {
	for _, kids := range [][]api.Node{nil, {}, make([]api.Node, 0, 5)} {
		n := api.Node{Kind: api.NodePlan, Kids: kids}
		if at, e := scope.Check(n); at != 0 || e != api.OK {
			t.Errorf("Check of no clause = %d, %d", at, e)
		}
		if clauses, at, e := scope.Unfold(n, api.View{}); len(clauses) != 0 || at != 0 || e != api.OK {
			t.Errorf("Unfold of no clause = %s", told(clauses, at, e))
		}
		checkNumber(t, api.Node{Kind: api.NodeNumber, Number: 4, Kids: kids}, sample(), 4)
		if at, e := scope.Check(absentOf(kids...)); at != 7 || e != api.ErrScopeName {
			t.Errorf("Check of a name of no part = %d, %d", at, e)
		}
	}
	for _, volumes := range [][]api.Volume{nil, {}, make([]api.Volume, 0, 5)} {
		v := api.View{Free: 4, Volumes: volumes}
		checkOver(t, v, `when exists(a) { } else { volume v size free(); }`, "volume'v'#4@26")
		checkNumber(t, expression(t, "free()"), v, 4)
		checkNoNumber(t, expression(t, "size(a)"), v, 5, api.ErrScopeUnknown)
	}
}

// Beside an error stands nothing, also where clauses were there already; beside OK stands no place.
func TestR2NothingBesideAnError(t *testing.T) {
	for _, tail := range []string{
		`let x = y;`, `let q = 1;`, `absent "1";`, `absent "${1}";`, `let x = 1 / 0;`, `let x = 1 - 2;`, `let x = size(b);`, `repeat i 1 to 1M { }`, `repeat i 1 to 1M { exact; }`,
	} {
		n := treeOf(t, `let q = 2; volume v size q; exact; `+tail)
		clauses, at, e := scope.Unfold(n, sample())
		if len(clauses) != 0 || at == 0 || e == api.OK {
			t.Errorf("Unfold with %s = %s", tail, told(clauses, at, e))
		}
	}
	for _, text := range []string{"1 / 0", "7 + (1 - 2)", "size(a) + size(b)", "3 * x", "5 + size(A)"} {
		if value, _, e := scope.Number(expression(t, text), sample()); value != 0 || e == api.OK {
			t.Errorf("Number(%s) = %d, %d", text, value, e)
		}
	}
}

// spareTree gives a tree whose lists have room behind them, with nodes in it that are found again.
func spareTree(n api.Node) api.Node {
	kids := make([]api.Node, 0, len(n.Kids)+2)
	for _, kid := range n.Kids {
		kids = append(kids, spareTree(kid))
	}
	behind := kids[:cap(kids)]
	for i := len(kids); i < len(behind); i++ {
		behind[i] = api.Node{Kind: 77, Text: "behind", Number: i}
	}
	n.Kids = kids
	return n
}

// wholeTree tells a tree with what stands in the room behind its lists.
func wholeTree(n api.Node) string {
	out := fmt.Sprintf("%d/%s/%d/%d", n.Kind, n.Text, n.Number, n.At)
	for _, kid := range n.Kids[:cap(n.Kids)] {
		out += "[" + wholeTree(kid) + "]"
	}
	return out
}

// spareView gives a view whose lists have room behind them.
func spareView(v api.View) api.View {
	volumes := make([]api.Volume, 0, len(v.Volumes)+2)
	for _, one := range v.Volumes {
		mapped := make([]api.Range, 0, len(one.Mapped)+1)
		one.Mapped = append(mapped, one.Mapped...)
		one.Mapped[:len(one.Mapped)+1][len(one.Mapped)] = api.Range{From: 7, To: 77}
		volumes = append(volumes, one)
	}
	behind := volumes[:cap(volumes)]
	for i := len(volumes); i < len(behind); i++ {
		behind[i] = api.Volume{Name: "behind", Size: i}
	}
	v.Volumes = volumes
	return v
}

// wholeView tells a view with what stands in the room behind its lists.
func wholeView(v api.View) string {
	out := fmt.Sprint(v.Capacity, v.Free, v.Next, len(v.Volumes))
	for _, one := range v.Volumes[:cap(v.Volumes)] {
		out += fmt.Sprint(one, len(one.Mapped), one.Mapped[:cap(one.Mapped)])
	}
	return out
}

// What is handed in is not changed.
func TestR4WhatIsHandedIn(t *testing.T) {
	d := &drawing{seed: 8}
	for range 1500 {
		n, v := spareTree(d.plan()), spareView(d.view())
		number := spareTree(d.expression())
		before := wholeTree(n) + wholeView(v) + wholeTree(number)
		scope.Check(n)
		scope.Unfold(n, v)
		scope.Number(number, v)
		if after := wholeTree(n) + wholeView(v) + wholeTree(number); after != before {
			t.Fatalf("what was handed in became %s; it was %s", after, before)
		}
	}
}

// spoil writes over all of a tree.
func spoil(n *api.Node) {
	for i := range n.Kids {
		spoil(&n.Kids[i])
	}
	*n = api.Node{Kind: 99, Text: "spoilt", Kids: n.Kids}
}

// What is handed in is not kept: written over behind the call, it changes nothing that was answered.
func TestR4WhatIsHandedInIsNotKept(t *testing.T) {
	const text = `let x = 2; repeat i 1 to 3 { volume "v${i}" from a size x * size(a) thick; } keep 2 of a; rename a to b; when exists(a) { snapshot of a; }`
	n, v := treeOf(t, text), sample()
	clauses, at, e := scope.Unfold(n, v)
	want := told(clauses, at, e)
	spoil(&n)
	v.Volumes[0] = api.Volume{Name: "spoilt", Size: 77}
	if got := told(clauses, at, e); got != want {
		t.Errorf("what was unfolded is %s; want %s", got, want)
	}
	if got := told(scope.Unfold(treeOf(t, text), sample())); got != want {
		t.Errorf("Unfold = %s; want %s", got, want)
	}
	if clauses, at, e := scope.Unfold(n, v); len(clauses) != 0 || at != 0 || e != api.ErrSyntaxTree {
		t.Errorf("Unfold of what was written over = %s", told(clauses, at, e))
	}
}

// What is handed out is new: written over and appended to, it changes no other answer.
func TestR4WhatIsHandedOut(t *testing.T) {
	d := &drawing{seed: 9}
	for range 500 {
		n, v := d.plan(), d.view()
		first, at, e := scope.Unfold(n, v)
		second, _, _ := scope.Unfold(n, v)
		want := told(first, at, e)
		for i := range second {
			second[i] = api.Clause{Kind: 99, Name: "spoilt"}
		}
		second = append(second, api.Clause{Kind: 98})
		behind := second[:cap(second)]
		for i := range behind {
			behind[i] = api.Clause{Kind: 97}
		}
		if got := told(first, at, e); got != want {
			t.Fatalf("what was unfolded became %s; it was %s", got, want)
		}
		if got := told(scope.Unfold(n, v)); got != want {
			t.Fatalf("Unfold(%v) = %s; it was %s", n, got, want)
		}
	}
	// Two that stand for one node are two.
	clauses, _, _ := scope.Unfold(treeOf(t, `repeat i 1 to 3 { exact; }`), sample())
	clauses[0] = api.Clause{Kind: 99}
	if got, want := listed(clauses), "kind99@0 exact@18 exact@18"; got != want {
		t.Errorf("the clauses are %s; want %s", got, want)
	}
}

// Asked twice, with other calls in between, and by several at once, the calls answer the same.
func TestR5AskedTwice(t *testing.T) {
	d := &drawing{seed: 10}
	type asked struct {
		n    api.Node
		v    api.View
		want string
	}
	answer := func(n api.Node, v api.View) string {
		at, e := scope.Check(n)
		return fmt.Sprintf("%d, %d; %s", at, e, told(scope.Unfold(n, v)))
	}
	var all []asked
	for range 400 {
		n, v := d.plan(), d.view()
		all = append(all, asked{n, v, answer(n, v)})
	}
	wrong := make([][]string, 4)
	wait := sync.WaitGroup{}
	for worker := range wrong {
		wait.Go(func() {
			for _, a := range slices.Backward(all) {
				if got := answer(a.n, a.v); got != a.want {
					wrong[worker] = append(wrong[worker], got+"; it was "+a.want)
				}
			}
		})
	}
	wait.Wait()
	for _, some := range wrong {
		if len(some) > 0 {
			t.Errorf("asked again: %s", strings.Join(some[:1], ""))
		}
	}
}
