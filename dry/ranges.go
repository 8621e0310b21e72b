package dry

import (
	"slices"
	"sort"

	"cistern/api"
)

// join adds ranges to a list that is in its one form, in its place. What they touch or overlap becomes one range with them.
func join(list []api.Range, more ...api.Range) []api.Range {
	for _, r := range more {
		if isEmpty(r) {
			continue
		}
		i, j := met(list, api.Range{From: r.From - 1, To: r.To + 1})
		if i < j {
			r = api.Range{From: min(r.From, list[i].From), To: max(r.To, list[j-1].To)}
		}
		list = slices.Replace(list, i, j, r)
	}
	return list
}

// cut takes ranges out of a list that is in its one form, in its place. What they meet at its ends alone stays there.
func cut(list []api.Range, gone ...api.Range) []api.Range {
	for _, r := range gone {
		i, j := met(list, r)
		if isEmpty(r) || i == j {
			continue
		}
		left := api.Range{From: list[i].From, To: r.From}
		right := api.Range{From: r.To, To: list[j-1].To}
		list = slices.Replace(list, i, j, withoutEmpty(left, right)...)
	}
	return list
}

// withoutEmpty gives those of some ranges that hold a block.
func withoutEmpty(ranges ...api.Range) []api.Range {
	return slices.DeleteFunc(ranges, isEmpty)
}

func isEmpty(r api.Range) bool { return r.From >= r.To }

// isBare tells whether a list has no block of a range.
func isBare(list []api.Range, r api.Range) bool {
	i, j := met(list, r)
	return isEmpty(r) || i == j
}

// isFull tells whether a list that is in its one form has all blocks of a range: they are in one of its ranges then, since no two
// touch.
func isFull(list []api.Range, r api.Range) bool {
	i, j := met(list, r)
	return isEmpty(r) || i < j && list[i].From <= r.From && list[i].To >= r.To
}

// met gives the part of a list, from a place up to and without another, that has a block in common with a range. The second
// place is looked for behind the first one, so that a list that does not rise has no part that ends ahead of its beginning.
func met(list []api.Range, r api.Range) (int, int) {
	i := sort.Search(len(list), func(i int) bool { return list[i].To > r.From })
	behind := list[i:]
	return i, i + sort.Search(len(behind), func(j int) bool { return behind[j].From >= r.To })
}
