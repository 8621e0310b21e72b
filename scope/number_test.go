package scope_test

import (
	"math"
	"slices"
	"strings"
	"testing"

	"cistern/api"
	"cistern/scope"
)

func checkNumber(t *testing.T, n api.Node, v api.View, want int) {
	t.Helper()
	if value, at, e := scope.Number(n, v); value != want || at != 0 || e != api.OK {
		t.Errorf("Number(%v) = %d, %d, %d; want %d, 0, 0", n, value, at, e, want)
	}
}

func checkNoNumber(t *testing.T, n api.Node, v api.View, place int, want api.Errno) {
	t.Helper()
	if value, at, e := scope.Number(n, v); value != 0 || at != place || e != want {
		t.Errorf("Number(%v) = %d, %d, %d; want 0, %d, %d", n, value, at, e, place, want)
	}
}

// expression gives the tree of a number's text, its places counted from the text's beginning.
func expression(t *testing.T, text string) api.Node {
	t.Helper()
	n := treeOf(t, "let x = "+text+";").Kids[0].Kids[0]
	moved(&n, -len("let x = "))
	return n
}

func moved(n *api.Node, by int) {
	n.At += by
	for i := range n.Kids {
		moved(&n.Kids[i], by)
	}
}

// checkReckoned holds what an expression comes to, by Number and in a plan.
func checkReckoned(t *testing.T, v api.View, text string, want int) {
	t.Helper()
	checkNumber(t, expression(t, text), v, want)
	clauses, at, e := scope.Unfold(treeOf(t, "volume q size "+text+";"), v)
	if len(clauses) != 1 || clauses[0].Number != want || at != 0 || e != api.OK {
		t.Errorf("Unfold of a volume of %s = %s; want %d", text, told(clauses, at, e), want)
	}
}

// checkNotReckoned holds the error of an expression, at the place that a ^ marks, by Number and in a plan.
func checkNotReckoned(t *testing.T, v api.View, text string, want api.Errno) {
	t.Helper()
	plain, place := marked(t, text)
	checkNoNumber(t, expression(t, plain), v, place, want)
	checkFaultOver(t, v, "volume q size "+text+";", want)
	checkFaultOver(t, v, "let q = "+text+";", want)
}

func TestP20_3EachKindOfExpression(t *testing.T) {
	v := sample()
	for _, c := range []struct {
		text string
		want int
	}{
		{"0", 0}, {"1", 1}, {"007", 7}, {"1K", 1024}, {"1048576M", mostNumber}, {"1099511627776", mostNumber},
		{"free()", 90}, {"size(a)", 10}, {`size("a")`, 10},
		{"1 + 2", 3}, {"0 + 0", 0}, {"1099511627775 + 1", mostNumber}, {"1 + 1099511627775", mostNumber}, {"1048576M + 0", mostNumber}, {"549755813888 + 549755813888", mostNumber},
		{"3 - 2", 1}, {"3 - 3", 0}, {"0 - 0", 0}, {"1048576M - 1048576M", 0}, {"1048576M - 0", mostNumber}, {"1048576M - 1", mostNumber - 1},
		{"3 * 4", 12}, {"0 * 4", 0}, {"4 * 0", 0}, {"0 * 1048576M", 0}, {"1048576M * 0", 0}, {"1048576M * 1", mostNumber}, {"1 * 1048576M", mostNumber},
		{"1M * 1M", mostNumber}, {"524288M * 2", mostNumber}, {"2 * 524288M", mostNumber}, {"1048575 * 1048576", 1048575 * 1048576}, {"3 * 366503875925", 1099511627775},
		{"7 / 2", 3}, {"6 / 2", 3}, {"5 / 2", 2}, {"1 / 2", 0}, {"0 / 2", 0}, {"7 / 1", 7}, {"7 / 7", 1}, {"7 / 8", 0}, {"1048576M / 1", mostNumber}, {"1 / 1048576M", 0}, {"1048576M / 1048576M", 1}, {"1048576M / 3", 366503875925},
		{"7 % 4", 3}, {"8 % 4", 0}, {"3 % 4", 3}, {"0 % 4", 0}, {"4 % 1", 0}, {"1048576M % 3", 1}, {"3 % 1048576M", 3}, {"1048576M % 1048576M", 0},
		{"min(3)", 3}, {"max(3)", 3}, {"min(3, 1, 2)", 1}, {"max(1, 3, 2)", 3}, {"min(1, 2, 3)", 1}, {"max(1, 2, 3)", 3}, {"min(3, 2, 1)", 1}, {"max(3, 2, 1)", 3}, {"min(2, 2)", 2}, {"max(2, 2)", 2}, {"min(0, 1)", 0}, {"max(0, 0)", 0}, {"max(0, 1048576M)", mostNumber}, {"min(1048576M)", mostNumber},
		{"1 + 2 * 3", 7}, {"(1 + 2) * 3", 9}, {"10 - 3 - 2", 5}, {"10 - (3 - 2)", 9}, {"100 / 10 / 2", 5}, {"100 / (10 / 2)", 20}, {"17 % 10 % 4", 3}, {"7 / 2 * 2 + 7 % 2", 7},
		{"min(3, 1, 2) + max(7) % 4", 4}, {"min(size(a), free()) * max(1, min(2, 3))", 20}, {"free() / size(a)", 9}, {"free() - size(a) * 9", 0},
		{`size("a") + size(a)`, 20},
	} {
		checkReckoned(t, v, c.text, c.want)
	}
}

func TestP20_3NumbersThatMayNotBe(t *testing.T) {
	v := sample()
	for _, text := range []string{
		// Sums, differences and products just beyond the bounds, and far beyond.
		"^1048576M + 1", "^1 + 1048576M", "^1099511627775 + 2", "^1048576M + 1048576M", "^549755813888 + 549755813889",
		"^0 - 1", "^3 - 4", "^0 - 1048576M", "^1099511627775 - 1048576M",
		"^1048576M * 2", "^2 * 1048576M", "^257 * 4278255361", "^4278255361 * 257", "^1048577 * 1048576", "^524289M * 2", "^3 * 366503875926",
		// Products that are 2 to the 63, 64, 65 and 80, and some beside them: an int does not hold them.
		"^8M * 1048576M", "^16M * 1048576M", "^1048576M * 16M", "^32M * 1048576M", "^4096M * 4096M", "^1048576M * 1048576M", "^1099511627775 * 1099511627775", "^1048576M * 1099511627775",
		"^3037000500 * 3037000500", "^16777217 * 1099511627775", "^4294967297 * 4294967296", "^6700417 * 1048576M",
		// Within others.
		"1 + (^3 - 4)", "min(1, ^3 - 4)", "max(^3 - 4, 1)", "0 * (^3 - 4)", "(^3 - 4) * 0", "(^3 - 4) + 4", "0 * (^1048576M * 2)", "^1048576M + 1 - 1", "^0 - 1 + 1", "(^1048576M * 2) / 2", "^1048576M * 2 % 3", "1 / (^1048576M + 1)",
		"(^0 - 1) / 0", "min(0, 1, ^1048576M * 1048576M, 1)",
	} {
		checkNotReckoned(t, v, text, api.ErrScopeNumber)
	}
	for _, text := range []string{
		"^1 / 0", "^0 / 0", "^1 % 0", "^0 % 0", "^1048576M / 0", "^1 / (2 - 2)", "^1 % (0 * 5)", "^free() / (size(a) - 10)",
		"1 / (^2 / 0)", "1 + (^2 % 0)", "0 * (^1 / 0)", "min(0, ^1 / 0)", "max(1, 2, ^1 % 0, 3)", "^1 / 0 + 3", "^1 / 0 / 0", "3 - 2 - (^1 / 0)",
	} {
		checkNotReckoned(t, v, text, api.ErrScopeZero)
	}
	for _, text := range []string{
		"size(^b)", `size(^"b")`, "1 + size(^b)", "0 * size(^b)", "min(0, size(^b))", "size(^aa)", `size(^"a${1}")`, "size(a) + size(^b)", "size(^b) / 0",
	} {
		checkNotReckoned(t, v, text, api.ErrScopeUnknown)
	}
	checkNotReckoned(t, v, `1 + size(^"${1}")`, api.ErrScopeName)
}

// Kids come in their order, and ahead of their parent.
func TestP20_3WhichErrorStandsFirst(t *testing.T) {
	v := sample()
	for _, c := range []struct {
		text string
		e    api.Errno
	}{
		{"size(^b) + 1 / 0", api.ErrScopeUnknown}, {"^1 / 0 + size(b)", api.ErrScopeZero}, {"(^3 - 4) * size(b)", api.ErrScopeNumber},
		{"min(size(^b), 1 / 0, 3 - 4)", api.ErrScopeUnknown}, {"max(1, ^1 / 0, 3 - 4, size(b))", api.ErrScopeZero}, {"min(^3 - 4, size(b))", api.ErrScopeNumber},
		{"size(^b) / 0", api.ErrScopeUnknown}, {"size(a) / size(^b)", api.ErrScopeUnknown}, {"^size(a) / 0", api.ErrScopeZero}, {"^size(a) - free()", api.ErrScopeNumber},
		{"1048576M * (^1 - 2)", api.ErrScopeNumber}, {"1 / (^1 - 2) / 0", api.ErrScopeNumber},
		{`size("b${^1 / 0}")`, api.ErrScopeZero}, {`size(^"b${1}") + size("${1}")`, api.ErrScopeUnknown}, {`size(^"${1}") + size(b)`, api.ErrScopeName},
	} {
		checkNotReckoned(t, v, c.text, c.e)
	}
}

// An error has the place of its own node, not of a kid that stands at the same byte.
func TestP20_3PlacesOfNodes(t *testing.T) {
	two := func(kind int, first int, second int) api.Node {
		return api.Node{Kind: kind, At: 40, Kids: []api.Node{{Kind: api.NodeNumber, Number: first, At: 41}, {Kind: api.NodeNumber, Number: second, At: 42}}}
	}
	checkNoNumber(t, two(api.NodeAdd, mostNumber, 1), sample(), 40, api.ErrScopeNumber)
	checkNoNumber(t, two(api.NodeSub, 0, 1), sample(), 40, api.ErrScopeNumber)
	checkNoNumber(t, two(api.NodeMul, mostNumber, 2), sample(), 40, api.ErrScopeNumber)
	checkNoNumber(t, two(api.NodeDiv, 1, 0), sample(), 40, api.ErrScopeZero)
	checkNoNumber(t, two(api.NodeRem, 1, 0), sample(), 40, api.ErrScopeZero)
	text := api.Node{Kind: api.NodeText, Text: "b", At: 52}
	name := api.Node{Kind: api.NodeName, At: 51, Kids: []api.Node{text}}
	size := api.Node{Kind: api.NodeSize, At: 50, Kids: []api.Node{name}}
	checkNoNumber(t, size, sample(), 51, api.ErrScopeUnknown)
	v := sample()
	v.Volumes = append(v.Volumes, api.Volume{Name: "b", Size: -1})
	checkNoNumber(t, size, v, 50, api.ErrScopeNumber)
	size.Kids = []api.Node{{Kind: api.NodeName, At: 51, Kids: []api.Node{{Kind: api.NodeText, Text: "B", At: 52}}}}
	checkNoNumber(t, size, v, 51, api.ErrScopeName)
	size.Kids = []api.Node{{Kind: api.NodeName, At: 51, Kids: []api.Node{{Kind: api.NodeNumber, Number: 7, At: 52}}}}
	checkNoNumber(t, size, v, 51, api.ErrScopeName)
	v.Free = -1
	checkNoNumber(t, api.Node{Kind: api.NodeFree, At: 60}, v, 60, api.ErrScopeNumber)
	checkNoNumber(t, api.Node{Kind: api.NodeMin, At: 70, Kids: []api.Node{{Kind: api.NodeFree, At: 71}}}, v, 71, api.ErrScopeNumber)
}

// What a view says of itself is a number like others: it may be or not.
func TestP20_3NumbersOfTheView(t *testing.T) {
	for _, c := range []struct {
		value int
		ok    bool
	}{
		{0, true}, {1, true}, {mostNumber - 1, true}, {mostNumber, true},
		{-1, false}, {mostNumber + 1, false}, {math.MaxInt, false}, {math.MinInt, false},
	} {
		v := api.View{Free: c.value, Volumes: []api.Volume{{Name: "a", Size: c.value}}}
		if !c.ok {
			checkNotReckoned(t, v, "^free()", api.ErrScopeNumber)
			checkNotReckoned(t, v, "^size(a)", api.ErrScopeNumber)
			checkNotReckoned(t, v, "0 * ^free()", api.ErrScopeNumber)
			checkNotReckoned(t, v, "min(0, ^size(a))", api.ErrScopeNumber)
			checkOver(t, v, "when exists(a) { exact; }", "exact@17")
			continue
		}
		checkReckoned(t, v, "free()", c.value)
		checkReckoned(t, v, "size(a)", c.value)
	}
	checkNotReckoned(t, api.View{}, "size(^a)", api.ErrScopeUnknown)
	checkReckoned(t, api.View{}, "free()", 0)
}

// Where two volumes have one name, the first one is meant.
func TestP20_3TwoVolumesOfOneName(t *testing.T) {
	v := api.View{Volumes: []api.Volume{{Name: "b", Size: 1}, {Name: "a", Size: 5}, {Name: "a", Size: 6}, {Name: "b", Size: -2}, {Name: "a", Size: 7}}}
	checkReckoned(t, v, "size(a)", 5)
	checkReckoned(t, v, "size(b)", 1)
	slices.Reverse(v.Volumes)
	checkReckoned(t, v, "size(a)", 7)
	checkNotReckoned(t, v, "^size(b)", api.ErrScopeNumber)
	checkOver(t, v, "when exists(a) and exists(b) and not exists(c) { exact; }", "exact@49")
	v.Volumes[2].Size = 0
	v.Volumes = v.Volumes[2:]
	checkReckoned(t, v, "size(a)", 0)
}

// Nothing is bound, and names are looked at ahead of all that is reckoned.
func TestP20_3WhatCheckRefuses(t *testing.T) {
	for _, c := range []struct {
		text string
		e    api.Errno
	}{
		{"^x", api.ErrScopeUnknown}, {"^y", api.ErrScopeUnknown}, {"1 + ^x", api.ErrScopeUnknown}, {"1 / 0 + ^x", api.ErrScopeUnknown}, {"min(3 - 4, ^y)", api.ErrScopeUnknown},
		{"size(^A)", api.ErrScopeName}, {`size(^"")`, api.ErrScopeName}, {`size(^"1")`, api.ErrScopeName}, {`size(^"~a")`, api.ErrScopeName}, {`size("v${^x}")`, api.ErrScopeUnknown}, {`size("v${size(^A)}")`, api.ErrScopeName},
		{"1 / 0 + size(^A)", api.ErrScopeName}, {"size(b) + size(^A)", api.ErrScopeName}, {`size("${1}") + ^x`, api.ErrScopeUnknown},
		{"^x + size(A)", api.ErrScopeUnknown}, {"size(^A) + x", api.ErrScopeName},
	} {
		plain, place := marked(t, c.text)
		checkNoNumber(t, expression(t, plain), sample(), place, c.e)
	}
}

// Nodes of each kind: those that are no expression, and expressions that no plan could hold.
func TestP20_3TreesThatMayNotBe(t *testing.T) {
	one := numberNode(1)
	less := treeOf(t, "when 1 < 2 { }").Kids[0].Kids[0]
	name := api.Node{Kind: api.NodeName, Kids: []api.Node{textNode("a")}}
	for kind := -2; kind < 45; kind++ {
		n := api.Node{Kind: kind, At: 9}
		switch kind {
		case api.NodeNumber:
			checkNumber(t, n, sample(), 0)
		case api.NodeFree:
			checkNumber(t, n, sample(), 90)
		default:
			checkNoNumber(t, n, sample(), 9, api.ErrSyntaxTree)
		}
		for _, kids := range [][]api.Node{{one}, {one, one}, {one, one, one}, {name}, {less}, {less, less}, {name, one}, {one, name}} {
			n.Kids = kids
			isTaken := kind >= api.NodeAdd && kind <= api.NodeRem && len(kids) == 2 && kids[0].Kind == api.NodeNumber && kids[1].Kind == api.NodeNumber ||
				(kind == api.NodeMin || kind == api.NodeMax) && !slices.ContainsFunc(kids, func(kid api.Node) bool { return kid.Kind != api.NodeNumber }) ||
				kind == api.NodeSize && len(kids) == 1 && kids[0].Kind == api.NodeName
			if value, at, e := scope.Number(n, sample()); isTaken && (at != 0 || e != api.OK) || !isTaken && (value != 0 || at != 9 || e != api.ErrSyntaxTree) {
				t.Errorf("Number(%v) = %d, %d, %d", n, value, at, e)
			}
		}
	}
	for _, text := range []string{"absent a;", "volume a size 1;", "exact;", "when 1 < 2 { }", "repeat i 1 to 2 { }", "let x = 1;"} {
		n := treeOf(t, text)
		n.At = 4
		checkNoNumber(t, n, sample(), 4, api.ErrSyntaxTree)
		n.Kids[0].At = 5
		checkNoNumber(t, n.Kids[0], sample(), 5, api.ErrSyntaxTree)
	}
	checkNoNumber(t, treeOf(t, "absent a;").Kids[0].Kids[0], sample(), 7, api.ErrSyntaxTree)
	for _, n := range []api.Node{
		{Kind: api.NodeNumber, Number: -1}, {Kind: api.NodeNumber, Number: mostNumber + 1}, {Kind: api.NodeNumber, Text: "a"}, {Kind: api.NodeFree, Number: 1}, {Kind: api.NodeFree, Text: "a"},
		{Kind: api.NodeWord, Text: ""}, {Kind: api.NodeWord, Text: "size"}, {Kind: api.NodeWord, Text: "1a"}, {Kind: api.NodeWord, Text: "a", Number: 1},
		{Kind: api.NodeSize, Kids: []api.Node{{Kind: api.NodeName, Kids: []api.Node{textNode("")}}}},
		{Kind: api.NodeSize, Kids: []api.Node{{Kind: api.NodeName, Kids: []api.Node{textNode("a"), textNode("b")}}}},
		{Kind: api.NodeSize, Kids: []api.Node{{Kind: api.NodeName, Kids: []api.Node{textNode("a$")}}}},
		{Kind: api.NodeSize, Kids: []api.Node{{Kind: api.NodeName, Kids: []api.Node{less}}}},
		// In a name's numbers every name is a word.
		{Kind: api.NodeSize, Kids: []api.Node{{Kind: api.NodeName, Kids: []api.Node{{Kind: api.NodeSize, Kids: []api.Node{{Kind: api.NodeName, Kids: []api.Node{textNode("a b")}}}}}}}},
		{Kind: api.NodeSize, Kids: []api.Node{{Kind: api.NodeName, Kids: []api.Node{{Kind: api.NodeSize, Kids: []api.Node{{Kind: api.NodeName, Kids: []api.Node{one}}}}}}}},
		// Far within, and beside what is refused otherwise.
		{Kind: api.NodeAdd, Kids: []api.Node{{Kind: api.NodeWord, Text: "y"}, {Kind: api.NodeMin}}},
		{Kind: api.NodeDiv, Kids: []api.Node{one, {Kind: api.NodeMul, Kids: []api.Node{one, {Kind: api.NodeNumber, Number: -1}}}}},
	} {
		n.At = 13
		checkNoNumber(t, n, sample(), 13, api.ErrSyntaxTree)
	}
}

// An expression stands at depth 3 of its plan: it may be 62 deep.
func TestP20_3DeepExpressions(t *testing.T) {
	chain := func(times int, inner api.Node) api.Node {
		for i := range times {
			inner = api.Node{Kind: api.NodeMax, At: 100 + i, Kids: []api.Node{inner}}
		}
		return inner
	}
	five := api.Node{Kind: api.NodeNumber, Number: 5, At: 1}
	checkNumber(t, chain(61, five), sample(), 5)
	checkNoNumber(t, chain(62, five), sample(), 161, api.ErrSyntaxDeep)
	checkNoNumber(t, chain(1000, five), sample(), 1099, api.ErrSyntaxDeep)
	// What is wrong below the last depth is not looked at; above it, it stands first.
	checkNoNumber(t, chain(62, api.Node{Kind: 77, At: 1}), sample(), 161, api.ErrSyntaxDeep)
	checkNoNumber(t, chain(61, api.Node{Kind: 77, At: 1}), sample(), 160, api.ErrSyntaxTree)
	checkNoNumber(t, api.Node{Kind: api.NodeAdd, At: 3, Kids: []api.Node{chain(70, five), {Kind: api.NodeMin}}}, sample(), 3, api.ErrSyntaxTree)
	checkNoNumber(t, api.Node{Kind: api.NodeAdd, At: 3, Kids: []api.Node{{Kind: api.NodeWord, Text: "x"}, chain(70, five)}}, sample(), 3, api.ErrSyntaxDeep)
	checkNoNumber(t, api.Node{Kind: api.NodeLess, At: 3, Kids: []api.Node{chain(70, five), five}}, sample(), 3, api.ErrSyntaxTree)
	// Its errors are told down there too.
	checkNoNumber(t, chain(61, api.Node{Kind: api.NodeWord, Text: "x", At: 2}), sample(), 2, api.ErrScopeUnknown)
	checkNoNumber(t, chain(60, expression(t, "1 / 0")), sample(), 0, api.ErrScopeZero)
	checkNumber(t, expression(t, strings.Repeat("1 + ", 61)+"1"), sample(), 62)
	checkReckoned(t, sample(), "max("+strings.Repeat("2, ", 5000)+"3)", 3)
}
