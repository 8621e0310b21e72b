package syntax_test

import (
	"slices"
	"testing"

	"cistern/api"
	"cistern/syntax"
)

// The kinds that may stand where the chapter's table says clause, block, name, part, number and condition.
var kindsOf = map[string][]int{
	"clause":    {2, 3, 4, 5, 6, 7, 8, 9, 10},
	"block":     {11},
	"name":      {12},
	"part":      {13, 20, 21, 22, 23, 24, 25, 26, 27, 28, 29, 30},
	"number":    {20, 21, 22, 23, 24, 25, 26, 27, 28, 29, 30},
	"condition": {31, 32, 33, 34, 35, 36},
}

// slots are what the kids of each kind are, and how many there may be; the last one stands as often as may be.
var slots = map[int]struct {
	kids        []string
	least, most int
}{
	1: {[]string{"clause"}, 0, 99}, 11: {[]string{"clause"}, 0, 99},
	2: {[]string{"number"}, 1, 1}, 3: {[]string{"name", "number", "name"}, 2, 3}, 4: {[]string{"name"}, 1, 1}, 5: {[]string{"number", "name"}, 2, 2},
	6: {[]string{"name"}, 1, 1}, 7: {[]string{"name", "name"}, 2, 2}, 8: {nil, 0, 0}, 9: {[]string{"number", "number", "block"}, 3, 3}, 10: {[]string{"condition", "block", "block"}, 2, 3},
	12: {[]string{"part"}, 0, 99}, 13: {nil, 0, 0},
	20: {nil, 0, 0}, 21: {nil, 0, 0}, 22: {[]string{"number", "number"}, 2, 2}, 23: {[]string{"number", "number"}, 2, 2}, 24: {[]string{"number", "number"}, 2, 2},
	25: {[]string{"number", "number"}, 2, 2}, 26: {[]string{"number", "number"}, 2, 2}, 27: {[]string{"number"}, 1, 99}, 28: {[]string{"number"}, 1, 99}, 29: {[]string{"name"}, 1, 1}, 30: {nil, 0, 0},
	31: {[]string{"number", "number"}, 2, 2}, 32: {[]string{"number", "number"}, 2, 2}, 33: {[]string{"name"}, 1, 1}, 34: {[]string{"condition"}, 1, 1},
	35: {[]string{"condition", "condition"}, 2, 2}, 36: {[]string{"condition", "condition"}, 2, 2},
}

// around gives the plans in which a node of a kind stands in a place where it may be, each at another depth.
func around(n api.Node) []api.Node {
	switch {
	case n.Kind == api.NodePlan:
		return []api.Node{n}
	case slices.Contains(kindsOf["clause"], n.Kind):
		return []api.Node{plan(n), plan(node(api.NodeExact), n, node(api.NodeExact)), bottom(20, n)}
	case n.Kind == api.NodeBlock:
		return []api.Node{plan(node(api.NodeWhen, less(), n)), plan(node(api.NodeWhen, less(), block(), n)), plan(repeat("i", number(1), number(2), n))}
	case n.Kind == api.NodeName:
		return []api.Node{plan(absent(n)), plan(node(api.NodeVolume, named("a"), number(1), n)), whens(node(api.NodeExists, n))}
	case n.Kind == api.NodeText:
		return []api.Node{plan(absent(name(n))), plan(absent(name(number(1), n, number(2))))}
	case slices.Contains(kindsOf["condition"], n.Kind):
		return []api.Node{whens(n), whens(node(api.NodeOr, less(), node(api.NodeNot, n))), lowCondition(30, n)}
	}
	return []api.Node{lets(n), whens(node(api.NodeLess, number(1), n)), lowNumber(30, n), plan(absent(name(n)))}
}

// checkAround holds what Valid answers of all plans in which a node stands where one of a kind may; the node may be of another kind.
func checkAround(t *testing.T, n api.Node, want api.Errno) {
	t.Helper()
	for _, p := range around(n) {
		checkValid(t, p, want)
	}
}

func TestP19_3EachKind(t *testing.T) {
	for kind := range kindNames {
		checkAround(t, sample(kind), api.OK)
	}
	for kind := -2; kind < 45; kind++ {
		want := api.ErrSyntaxTree
		if kind == api.NodePlan {
			want = api.OK
		}
		checkValid(t, sample(kind), want) // nothing else is a plan
	}
	for _, kind := range []int{-1 << 63, -1, 0, 14, 15, 19, 37, 38, 100, 1<<63 - 1} {
		checkValid(t, plan(node(kind)), api.ErrSyntaxTree)
		checkValid(t, lets(node(kind)), api.ErrSyntaxTree)
		checkValid(t, whens(node(kind)), api.ErrSyntaxTree)
		checkValid(t, plan(absent(node(kind))), api.ErrSyntaxTree)
		checkValid(t, plan(absent(name(node(kind)))), api.ErrSyntaxTree)
		checkValid(t, node(kind), api.ErrSyntaxTree)
	}
}

// Every kind in the place of every kid of every kind.
func TestP19_3EachKindInEachPlace(t *testing.T) {
	for kind, slot := range slots {
		full := sample(kind)
		for len(full.Kids) < min(slot.most, 3) {
			kid := sample(kindsOf[slot.kids[min(len(full.Kids), len(slot.kids)-1)]][0])
			if kind == api.NodeName {
				kid = number(len(full.Kids))
			}
			full.Kids = append(full.Kids, kid)
		}
		checkAround(t, full, api.OK)
		for at := range full.Kids {
			for other := range kindNames {
				n := full
				n.Kids = slices.Clone(full.Kids)
				n.Kids[at] = sample(other)
				want := api.ErrSyntaxTree
				if slices.Contains(kindsOf[slot.kids[min(at, len(slot.kids)-1)]], other) {
					want = api.OK
				}
				if kind == api.NodeName && at == 1 && other == api.NodeText {
					want = api.ErrSyntaxTree // beside the text ahead of it
				}
				checkAround(t, n, want)
			}
		}
	}
}

func TestP19_3NumberOfKids(t *testing.T) {
	for kind, slot := range slots {
		for count := range 6 {
			n := sample(kind)
			n.Kids = nil
			for i := range count {
				kid := number(1)
				if len(slot.kids) > 0 && kind != api.NodeName {
					kid = sample(kindsOf[slot.kids[min(i, len(slot.kids)-1)]][0])
				}
				n.Kids = append(n.Kids, kid)
			}
			want := api.OK
			if count < slot.least || count > slot.most {
				want = api.ErrSyntaxTree
			}
			checkAround(t, n, want)
		}
	}
}

func TestP19_3Texts(t *testing.T) {
	words := []string{"a", "_", "Z", "x9", "_0", "sizes", "Of", "K"}
	noWords := []string{"", "1a", "a b", " a", "a ", "a-", "a.b", "é", "a\n", "\x00", "$", "a;", `"a"`, "${a}"}
	for kind := range kindNames {
		n := sample(kind)
		for _, w := range slices.Concat(words, noWords, reserved) {
			n.Text = w
			want := api.ErrSyntaxTree
			switch kind {
			case api.NodeLet, api.NodeRepeat, api.NodeWord:
				if slices.Contains(words, w) {
					want = api.OK
				}
			case api.NodeText:
				if !slices.Contains([]string{"", "é", "a\n", "\x00", "$", `"a"`, "${a}"}, w) {
					want = api.OK
				}
			default:
				if w == "" {
					want = api.OK
				}
			}
			checkAround(t, n, want)
		}
	}
}

// Each byte in a name's text: those from 32 to 126 may be, but for four.
func TestP19_3EachByteOfANamesText(t *testing.T) {
	for b := range 256 {
		want := api.OK
		if b < 32 || b > 126 || b == '"' || b == '$' || b == '{' || b == '}' {
			want = api.ErrSyntaxTree
		}
		for _, s := range []string{string([]byte{byte(b)}), string([]byte{'a', byte(b)}), string([]byte{byte(b), 'a'}), string([]byte{'a', ' ', byte(b), '-'})} {
			checkValid(t, plan(absent(named(s))), want)
			checkValid(t, plan(absent(name(number(1), text(s), number(2)))), want)
			if want == api.OK {
				checkAgain(t, plan(absent(named(s))))
			}
		}
	}
}

func TestP19_3Numbers(t *testing.T) {
	for kind := range kindNames {
		n := sample(kind)
		for _, value := range []int{-1 << 63, -mostNumber, -1, 0, 1, 2, 1024, mostNumber - 1, mostNumber, mostNumber + 1, 1 << 62, 1<<63 - 1} {
			n.Number = value
			want := api.ErrSyntaxTree
			switch {
			case value == 0, kind == api.NodeVolume && value == 1, kind == api.NodeNumber && value >= 0 && value <= mostNumber:
				want = api.OK
			}
			checkAround(t, n, want)
		}
	}
}

func TestP19_3PartsOfNames(t *testing.T) {
	a, one, y := text("a"), number(1), word("y")
	for _, c := range []struct {
		parts []api.Node
		want  api.Errno
	}{
		{nil, api.OK},
		{[]api.Node{a}, api.OK},
		{[]api.Node{one}, api.OK},
		{[]api.Node{one, y}, api.OK},
		{[]api.Node{a, one, a}, api.OK},
		{[]api.Node{one, a, y}, api.OK},
		{[]api.Node{a, a}, api.ErrSyntaxTree},
		{[]api.Node{one, a, a}, api.ErrSyntaxTree},
		{[]api.Node{a, a, one}, api.ErrSyntaxTree},
		{[]api.Node{a, one, a, a}, api.ErrSyntaxTree},
		{[]api.Node{text("")}, api.ErrSyntaxTree},
		{[]api.Node{one, text(""), y}, api.ErrSyntaxTree},
		{[]api.Node{a, text("")}, api.ErrSyntaxTree},
		{[]api.Node{less()}, api.ErrSyntaxTree},
		{[]api.Node{one, less()}, api.ErrSyntaxTree},
		{[]api.Node{named("a")}, api.ErrSyntaxTree},
		{[]api.Node{block()}, api.ErrSyntaxTree},
		{[]api.Node{node(api.NodeExact)}, api.ErrSyntaxTree},
		{[]api.Node{api.Node{Kind: api.NodeText, Text: "a", Kids: []api.Node{a}}}, api.ErrSyntaxTree},
		{[]api.Node{api.Node{Kind: api.NodeText, Text: "a", Number: 1}}, api.ErrSyntaxTree},
	} {
		checkAround(t, name(c.parts...), c.want)
	}
}

// Within a name's number no quotes can stand: a name there is a WORD.
func TestP19_3NamesWithinNames(t *testing.T) {
	size := func(n api.Node) api.Node { return node(api.NodeSize, n) }
	within := func(n api.Node) []api.Node {
		return []api.Node{
			plan(absent(name(size(n)))),
			plan(absent(name(text("a"), size(n), text("b")))),
			plan(absent(name(number(1), node(api.NodeAdd, number(1), node(api.NodeMin, number(2), size(n)))))),
			whens(node(api.NodeExists, name(size(n)))),
			lets(size(name(size(n)))),
			plan(repeat("i", number(1), number(2), block(node(api.NodeVolume, named("a"), number(1), name(size(n)))))),
		}
	}
	for _, w := range []string{"a", "_", "x9", "sizes"} {
		for _, p := range within(named(w)) {
			checkValid(t, p, api.OK)
			checkAgain(t, p)
		}
		checkValid(t, lets(size(named(w))), api.OK)
	}
	for _, n := range []api.Node{name(), named("a b"), named("1"), named("a-b"), named("~"), named("size"), named("of"), name(number(1)), name(word("i")), name(text("a"), number(1)), name(number(1), text("a"))} {
		for _, p := range within(n) {
			checkValid(t, p, api.ErrSyntaxTree)
		}
		// But beside a number, in a clause or behind one, it may be.
		checkValid(t, lets(size(n)), api.OK)
		checkValid(t, plan(node(api.NodeRename, name(number(1)), n)), api.OK)
		checkValid(t, plan(absent(name(number(1))), absent(n)), api.OK)
	}
	for _, w := range reserved {
		for _, p := range within(named(w)) {
			checkValid(t, p, api.ErrSyntaxTree)
		}
	}
}

// What Parse gives is Valid, and one change of it where it counts is not.
func TestP19_3OneChange(t *testing.T) {
	const text = `let x = 1 + y; volume "a${x}" from b size min(2, 3) thick; when not exists(c) and 1 < 2 { exact; } else { keep 1 of d; }`
	n, _, e := syntax.Parse([]byte(text))
	if e != api.OK {
		t.Fatal(e)
	}
	checkValid(t, n, api.OK)
	var every func(n *api.Node, do func(n *api.Node))
	every = func(n *api.Node, do func(n *api.Node)) {
		do(n)
		for i := range n.Kids {
			every(&n.Kids[i], do)
		}
	}
	every(&n, func(one *api.Node) {
		was := *one
		one.Kind = 0
		checkValid(t, n, api.ErrSyntaxTree)
		one.Kind = api.NodePlan
		if was.Kind != api.NodePlan {
			checkValid(t, n, api.ErrSyntaxTree)
		}
		one.Kind, one.Text = was.Kind, "\x00"
		checkValid(t, n, api.ErrSyntaxTree)
		one.Text, one.Number = was.Text, -1
		checkValid(t, n, api.ErrSyntaxTree)
		one.Number, one.At = was.Number, -1
		checkValid(t, n, api.OK)
		*one = was
	})
	checkValid(t, n, api.OK)
}
