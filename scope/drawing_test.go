package scope_test

import (
	"fmt"
	"slices"
	"strings"
	"testing"

	"cistern/api"
	"cistern/scope"
	"cistern/syntax"
)

// drawing draws what looks like chance and is the same in each run.
type drawing struct {
	seed   uint32
	isBare bool // whether nothing is asked of the view
	isWild bool // whether more of what is drawn may not be
}

// below draws from 0 up to and without most.
func (d *drawing) below(most int) int {
	d.seed = d.seed*1664525 + 1013904223
	high := uint64(d.seed >> 8)
	d.seed = d.seed*1664525 + 1013904223
	return int((high<<24 | uint64(d.seed>>8)) % uint64(most))
}

// one draws one of some texts.
func (d *drawing) one(of ...string) string { return of[d.below(len(of))] }

// seldom tells whether something happens that makes most plans ones that are refused.
func (d *drawing) seldom() bool {
	if d.isWild {
		return d.below(8) == 0
	}
	return d.below(60) == 0
}

func node(kind int, kids ...api.Node) api.Node { return api.Node{Kind: kind, Kids: kids} }

func (d *drawing) word() string { return d.one("x", "y", "z", "i", "k", "a", "Q", "_") }

// bound draws a word of those that are bound, and seldom another.
func (d *drawing) bound(words []string) api.Node {
	word := d.word()
	if len(words) > 0 && !d.seldom() {
		word = words[d.below(len(words))]
	} else if !d.seldom() {
		return numberNode(d.below(4))
	}
	return api.Node{Kind: 21, Text: word}
}

// fresh draws a word that is not bound, and seldom one that is.
func (d *drawing) fresh(words []string) string {
	if len(words) > 0 && d.seldom() {
		return words[d.below(len(words))]
	}
	for {
		if word := d.word() + d.one("", "", "1", "2"); !slices.Contains(words, word) {
			return word
		}
	}
}

func (d *drawing) value() int {
	switch {
	case d.seldom():
		values := []int{1 << 20, 1 << 24, 1 << 32, mostNumber / 2, mostNumber - 1, mostNumber}
		return values[d.below(len(values))]
	case d.seldom():
		return d.below(mostNumber + 1)
	}
	return d.below(12)
}

func (d *drawing) name(depth int, words []string, isWithin bool) api.Node {
	plain := d.one("a", "b", "c", "a", "b")
	switch {
	case d.seldom():
		plain = d.one("A", "_", "a_", strings.Repeat("n", 30+d.below(3)))
	case d.seldom() && !isWithin:
		plain = d.one("~1", "1", "a b", "a.b@c~d-e_f0", " ", strings.Repeat("n", 30+d.below(3)))
	}
	if isWithin || depth <= 2 || d.below(2) == 0 {
		return node(12, textNode(plain))
	}
	out := node(12)
	if !d.seldom() {
		out.Kids = append(out.Kids, textNode(plain))
	}
	for range d.below(3) {
		if behind := len(out.Kids) > 0 && out.Kids[len(out.Kids)-1].Kind == 13; behind || d.below(2) == 0 {
			out.Kids = append(out.Kids, d.number(depth-1, words, true))
		} else {
			out.Kids = append(out.Kids, textNode(d.one("a", "-", "1", "v", "~")))
		}
	}
	return out
}

// number draws one of some depth; isWithin: in a name.
func (d *drawing) number(depth int, words []string, isWithin bool) api.Node {
	if depth <= 1 || d.below(3) == 0 {
		switch d.below(4) {
		case 0:
			return numberNode(d.value())
		case 1:
			if !d.isBare {
				return node(30)
			}
		}
		return d.bound(words)
	}
	low := depth - 1
	switch d.below(12) {
	case 0:
		if !d.isBare && depth > 2 {
			return node(29, d.name(low, words, isWithin))
		}
	case 1, 2:
		out := node(27 + d.below(2))
		for range 1 + d.below(3) {
			out.Kids = append(out.Kids, d.number(low, words, isWithin))
		}
		return out
	case 3: // A quotient that is seldom one by nothing.
		return node(25+d.below(2), d.number(low, words, isWithin), node(22, numberNode(d.below(8)), numberNode(d.below(4))))
	case 4: // A difference that is seldom below nothing.
		return node(23, node(28, d.number(low, words, isWithin), numberNode(30)), numberNode(d.below(30)))
	case 5:
		if d.seldom() {
			return node(22+d.below(5), d.number(low, words, isWithin), d.number(low, words, isWithin))
		}
	}
	return node(22+2*d.below(2), d.number(low, words, isWithin), d.number(low, words, isWithin))
}

func (d *drawing) condition(depth int, words []string) api.Node {
	if depth <= 3 || d.below(3) == 0 {
		if !d.isBare && d.below(3) == 0 {
			return node(33, d.name(depth-1, words, false))
		}
		return node(31+d.below(2), d.number(depth-1, words, false), d.number(depth-1, words, false))
	}
	if d.below(3) == 0 {
		return node(34, d.condition(depth-1, words))
	}
	return node(35+d.below(2), d.condition(depth-1, words), d.condition(depth-1, words))
}

func (d *drawing) clause(depth int, words []string) api.Node {
	low := depth - 1
	switch d.below(12) {
	case 0, 1, 2:
		return api.Node{Kind: 2, Text: d.fresh(words), Kids: []api.Node{d.number(low, words, false)}}
	case 3:
		out := node(3, d.name(low, words, false), d.number(low, words, false))
		if d.below(2) == 0 {
			out.Kids = append(out.Kids, d.name(low, words, false))
		}
		out.Number = d.below(2)
		return out
	case 4:
		return node(4, d.name(low, words, false))
	case 5:
		return node(5, d.number(low, words, false), d.name(low, words, false))
	case 6:
		return node(6, d.name(low, words, false))
	case 7:
		return node(7, d.name(low, words, false), d.name(low, words, false))
	case 8, 9:
		return d.repeat(low, words)
	case 10:
		out := node(10, d.condition(low, words), d.block(low, words))
		if d.below(2) == 0 {
			out.Kids = append(out.Kids, d.block(low, words))
		}
		return out
	}
	return node(8)
}

// repeat draws one of few rounds, or of some that are drawn.
func (d *drawing) repeat(depth int, words []string) api.Node {
	word := d.fresh(words)
	from, to := numberNode(d.below(3)), numberNode(d.below(6))
	switch {
	case d.seldom():
		to.Number = []int{20, 300, 16384, 20000, mostNumber}[d.below(5)]
	case d.below(10) == 0:
		to.Number = 20 + d.below(90)
	case d.below(4) == 0:
		from = node(26, d.number(depth-1, words, false), numberNode(1+d.below(5)))
		to = node(27, numberNode(d.below(6)), d.number(depth-1, words, false))
	}
	return api.Node{Kind: 9, Text: word, Kids: []api.Node{from, to, d.block(depth, append(slices.Clone(words), word))}}
}

func (d *drawing) block(depth int, words []string) api.Node {
	out := node(11)
	if depth > 4 {
		out.Kids = d.clauses(d.below(4), depth-1, words)
	}
	return out
}

// clauses draws some, each with the words that those ahead of it bind.
func (d *drawing) clauses(count int, depth int, words []string) []api.Node {
	var out []api.Node
	for range count {
		c := d.clause(depth, words)
		if c.Kind == 2 {
			words = append(slices.Clone(words), c.Text)
		}
		out = append(out, c)
	}
	return out
}

// placed gives the nodes of a tree places of which no two are one.
func (d *drawing) placed(n *api.Node, at *int) {
	*at += 1 + d.below(3)
	n.At = *at
	for i := range n.Kids {
		d.placed(&n.Kids[i], at)
	}
}

// plan draws a tree that may be.
func (d *drawing) plan() api.Node {
	out := node(1, d.clauses(d.below(7), 6+d.below(3), nil)...)
	at := -20
	d.placed(&out, &at)
	return out
}

// expression draws one that is looked at alone.
func (d *drawing) expression() api.Node {
	out := d.number(2+d.below(5), nil, false)
	at := -3
	d.placed(&out, &at)
	return out
}

// spoilt draws a tree of which a node is another: seldom one that may be.
func (d *drawing) spoilt(n api.Node) api.Node {
	if len(n.Kids) > 0 && d.below(4) > 0 {
		kids := slices.Clone(n.Kids)
		at := d.below(len(kids))
		kids[at] = d.spoilt(kids[at])
		n.Kids = kids
		return n
	}
	switch d.below(5) {
	case 0:
		n.Kind = d.below(40) - 1
	case 1:
		n.Text = d.one("", "a", "x", "size", "1", "$")
	case 2:
		n.Number = []int{-1, 0, 1, 2, mostNumber, mostNumber + 1}[d.below(6)]
	case 3:
		n.Kids = slices.Clone(n.Kids[:max(0, len(n.Kids)-1)])
	case 4:
		n.Kids = append(slices.Clone(n.Kids), d.clause(6, nil))
	}
	return n
}

// view draws one, seldom one that may not be.
func (d *drawing) view() api.View {
	v := api.View{Free: d.below(100)}
	if d.seldom() {
		v.Free = []int{-1, mostNumber, mostNumber + 1, 1 << 62}[d.below(4)]
	}
	add := func(name string) {
		size := 1 + d.below(20)
		if d.seldom() {
			size = []int{-1, 0, mostNumber, mostNumber + 1, -1 << 63}[d.below(5)]
		}
		v.Volumes = append(v.Volumes, api.Volume{Name: name, Size: size})
	}
	for _, name := range []string{"a", "b", "c"} {
		if d.below(6) > 0 {
			add(name)
		}
	}
	for range d.below(6) {
		add(d.one("a", "b", "c", "a0", "a1", "b2", "c30", "~a", "1", "", "a-1"))
	}
	return d.dressed(v)
}

// dressed gives a view with the same Free, names and Sizes, and all else drawn.
func (d *drawing) dressed(v api.View) api.View {
	v.Capacity, v.Next = d.below(300)-100, d.below(300)-100
	volumes := make([]api.Volume, len(v.Volumes))
	for i, one := range v.Volumes {
		volumes[i] = api.Volume{Name: strings.Clone(one.Name), Size: one.Size, ID: d.below(9) - 1, Origin: d.below(9) - 1, Kind: d.below(3), Partial: d.below(2) == 0}
		for range d.below(3) {
			volumes[i].Mapped = append(volumes[i].Mapped, api.Range{From: d.below(9), To: d.below(20)})
		}
	}
	v.Volumes = volumes
	return v
}

// checkMet holds that each of some answers was met often enough.
func checkMet(t *testing.T, met map[api.Errno]int, least int, errors ...api.Errno) {
	t.Helper()
	for _, e := range errors {
		if met[e] < least {
			t.Errorf("%d of what was drawn came to %d; all: %v", met[e], e, met)
		}
	}
}

func TestP20_1AgainstTheModel(t *testing.T) {
	d := &drawing{seed: 1}
	met := map[api.Errno]int{}
	for i := range 12000 {
		d.isWild = i%2 == 0
		n := d.plan()
		if i%8 == 0 {
			n = d.spoilt(n)
		}
		want := failure{}
		if f := modelledCheck(n); f != nil {
			want = *f
		}
		met[want.e]++
		if at, e := scope.Check(n); at != want.at || e != want.e {
			t.Fatalf("Check(%v) = %d, %d; want %d, %d", n, at, e, want.at, want.e)
		}
	}
	checkMet(t, met, 100, api.OK, api.ErrSyntaxTree, api.ErrScopeName, api.ErrScopeTwice, api.ErrScopeUnknown)
}

func TestP20_2AgainstTheModel(t *testing.T) {
	d := &drawing{seed: 2}
	met := map[api.Errno]int{}
	longest := 0
	for i := range 12000 {
		d.isWild = i%4 == 0
		n, v := d.plan(), d.view()
		want, e := modelledUnfold(n, v)
		met[e]++
		longest = max(longest, strings.Count(want, "@"))
		if got := told(scope.Unfold(n, v)); got != want {
			text, _ := syntax.Print(n)
			t.Fatalf("Unfold(%s) over %v = %s; want %s", text, v, got, want)
		}
	}
	checkMet(t, met, 40, api.OK, api.ErrScopeName, api.ErrScopeTwice, api.ErrScopeUnknown, api.ErrScopeNumber, api.ErrScopeZero, api.ErrScopeMany)
	if met[api.OK] < 3000 || longest < 100 {
		t.Errorf("%d were unfolded, to %d clauses at most", met[api.OK], longest)
	}
}

func TestP20_3AgainstTheModel(t *testing.T) {
	d := &drawing{seed: 3}
	met := map[api.Errno]int{}
	for i := range 20000 {
		d.isWild = i%2 == 0
		n, v := d.expression(), d.view()
		if i%8 == 0 {
			n = d.spoilt(n)
		}
		want, e := modelledNumber(n, v)
		met[e]++
		value, at, e := scope.Number(n, v)
		if got := fmt.Sprint(value, at, int(e)); got != want {
			t.Fatalf("Number(%v) over %v = %s; want %s", n, v, got, want)
		}
	}
	checkMet(t, met, 40, api.OK, api.ErrSyntaxTree, api.ErrScopeName, api.ErrScopeUnknown, api.ErrScopeNumber, api.ErrScopeZero)
}

// Sums, differences, products, quotients and what they leave, of all pairs of some numbers up to the greatest.
func TestP20_3AllPairsAgainstTheModel(t *testing.T) {
	var values []int
	for shift := range 41 {
		for _, beside := range []int{-1, 0, 1} {
			if value := 1<<shift + beside; value <= mostNumber {
				values = append(values, value)
			}
		}
	}
	values = append(values, 0, 3037000499, 3037000500, 4278255361, 366503875925, 366503875926, 6700417)
	for kind := api.NodeAdd; kind <= api.NodeMax; kind++ {
		for _, first := range values {
			for _, second := range values {
				n := node(kind, numberNode(first), numberNode(second))
				n.At = 7
				want, _ := modelledNumber(n, api.View{})
				value, at, e := scope.Number(n, api.View{})
				if got := fmt.Sprint(value, at, int(e)); got != want {
					t.Fatalf("Number of the kind %d of %d and %d = %s; want %s", kind, first, second, got, want)
				}
			}
		}
	}
}

// Plans that are drawn are unfolded alike over two views with the same Free, names and Sizes.
func TestP20_4TheSameOfTheView(t *testing.T) {
	d := &drawing{seed: 4}
	met := map[api.Errno]int{}
	for i := range 6000 {
		d.isWild = i%4 == 0
		n, v := d.plan(), d.view()
		clauses, at, e := scope.Unfold(n, v)
		met[e]++
		want := told(clauses, at, e)
		for range 3 {
			other := d.dressed(v)
			if got := told(scope.Unfold(n, other)); got != want {
				t.Fatalf("Unfold(%v) over %v = %s; over %v it is %s", n, other, got, v, want)
			}
		}
		// The order of the volumes is nothing, but among those of one name.
		turned := d.dressed(v)
		slices.SortStableFunc(turned.Volumes, func(a api.Volume, b api.Volume) int { return strings.Compare(b.Name, a.Name) })
		if got := told(scope.Unfold(n, turned)); got != want {
			t.Fatalf("Unfold(%v) over %v = %s; over %v it is %s", n, turned, got, v, want)
		}
		// Another one of a name is nothing behind the first.
		for _, one := range v.Volumes {
			turned.Volumes = append(turned.Volumes, api.Volume{Name: one.Name, Size: d.below(50)})
		}
		if got := told(scope.Unfold(n, turned)); got != want {
			t.Fatalf("Unfold(%v) over %v = %s; over %v it is %s", n, turned, got, v, want)
		}
	}
	checkMet(t, met, 20, api.OK, api.ErrScopeName, api.ErrScopeTwice, api.ErrScopeUnknown, api.ErrScopeNumber, api.ErrScopeZero, api.ErrScopeMany)
}

// A plan without size, free and exists is unfolded alike over every view.
func TestP20_4NothingAskedOfTheView(t *testing.T) {
	d := &drawing{seed: 5, isBare: true}
	met := map[api.Errno]int{}
	for i := range 6000 {
		d.isWild = i%4 == 0
		n := d.plan()
		clauses, at, e := scope.Unfold(n, api.View{})
		met[e]++
		want := told(clauses, at, e)
		for range 3 {
			v := d.view()
			if got := told(scope.Unfold(n, v)); got != want {
				t.Fatalf("Unfold(%v) over %v = %s; over nothing it is %s", n, v, got, want)
			}
		}
	}
	checkMet(t, met, 20, api.OK, api.ErrScopeName, api.ErrScopeTwice, api.ErrScopeUnknown, api.ErrScopeNumber, api.ErrScopeZero, api.ErrScopeMany)
}

// What hangs on the view does: another Free, another Size, another name.
func TestP20_4WhatHangsOnTheView(t *testing.T) {
	v := sample()
	checkOver(t, v, `volume v size free() + size(a);`, "volume'v'#100@0")
	v.Free = 1
	checkOver(t, v, `volume v size free() + size(a);`, "volume'v'#11@0")
	v.Volumes[0].Size = 2
	checkOver(t, v, `volume v size free() + size(a);`, "volume'v'#3@0")
	v.Volumes[0].Name = "b"
	checkFaultOver(t, v, `volume v size free() + size(^a);`, api.ErrScopeUnknown)
	checkOver(t, v, `when exists(a) { exact; } else { absent c; }`, "absent'c'@33")
}

// What is drawn as a plan may be, of every kind of node.
func TestP20WhatIsDrawnMayBe(t *testing.T) {
	d := &drawing{seed: 6}
	kinds := map[int]int{}
	var count func(n api.Node)
	count = func(n api.Node) {
		kinds[n.Kind]++
		for _, kid := range n.Kids {
			count(kid)
		}
	}
	for range 2000 {
		n := d.plan()
		count(n)
		if e := syntax.Valid(n); e != api.OK {
			t.Fatalf("%v may not be: %d", n, e)
		}
	}
	for kind := api.NodePlan; kind <= api.NodeOr; kind++ {
		if (kind <= api.NodeText || kind >= api.NodeNumber) && kinds[kind] < 50 {
			t.Errorf("%d nodes of the kind %d are drawn", kinds[kind], kind)
		}
	}
}

// Written as a text and read again, a plan is unfolded to the same clauses, places aside.
func TestP20_2WrittenAndReadAgain(t *testing.T) {
	d := &drawing{seed: 7}
	unfolded := 0
	for range 2000 {
		n, v := d.plan(), d.view()
		text, e := syntax.Print(n)
		if e != api.OK {
			t.Fatalf("Print(%v) = %d", n, e)
		}
		clauses, _, e := scope.Unfold(n, v)
		again, _, eAgain := scope.Unfold(treeOf(t, text), v)
		for i := range clauses {
			clauses[i].At = 0
		}
		for i := range again {
			again[i].At = 0
		}
		if e != eAgain || !slices.Equal(clauses, again) {
			t.Fatalf("Unfold(%s) = %s, %d; of the tree it is %s, %d", text, listed(again), eAgain, listed(clauses), e)
		}
		unfolded += len(clauses)
	}
	if unfolded < 1000 {
		t.Errorf("%d clauses were unfolded", unfolded)
	}
}
