package diff

import (
	"sort"

	"cistern/api"
)

// finders gives what finds the steps of each kind, in the order in which they are told.
func finders() []func(*change) []api.Op {
	return []func(*change) []api.Op{
		(*change).renames, (*change).snapshots, (*change).deletes, (*change).makings, (*change).resizes, (*change).fills,
	}
}

func (c *change) renames() []api.Op {
	var ops []api.Op
	for _, x := range c.old {
		if name := c.before[x.ID].Name; name != x.Name {
			ops = append(ops, api.Op{Kind: api.OpRename, Name: name, Other: x.Name})
		}
	}
	return ops
}

func (c *change) snapshots() []api.Op {
	var ops []api.Op
	for _, x := range c.fresh {
		ops = append(ops, api.Op{Kind: api.OpSnap, Name: x.Name, Other: c.source(x).Name})
	}
	return ops
}

func (c *change) deletes() []api.Op {
	var ops []api.Op
	for _, x := range c.all() {
		if _, stays := c.after[x.ID]; !stays {
			ops = append(ops, api.Op{Kind: api.OpDelete, Name: x.Name})
		}
	}
	return ops
}

func (c *change) makings() []api.Op {
	var ops []api.Op
	for _, x := range c.made {
		if x.Origin == 0 {
			ops = append(ops, api.Op{Kind: api.OpCreate, Name: x.Name, To: x.Size})
		} else {
			ops = append(ops, api.Op{Kind: api.OpClone, Name: x.Name, Other: c.source(x).Name})
		}
	}
	return ops
}

func (c *change) resizes() []api.Op {
	var ops []api.Op
	for _, x := range c.all() {
		if end, stays := c.after[x.ID]; stays && end.Size != x.Size {
			ops = append(ops, api.Op{Kind: api.OpResize, Name: x.Name, To: end.Size})
		}
	}
	return ops
}

func (c *change) fills() []api.Op {
	var ops []api.Op
	for _, x := range c.all() {
		for from := 0; from < c.thick[x.Name]; from += api.MaxFill {
			part := api.Range{From: from, To: min(from+api.MaxFill, c.thick[x.Name])}
			if !isMapped(x.Mapped, part) {
				ops = append(ops, api.Op{Kind: api.OpFill, Name: x.Name, From: part.From, To: part.To})
			}
		}
	}
	return ops
}

// isMapped tells whether all of a part is in a list of ranges: in one of them, since no two touch.
func isMapped(list []api.Range, part api.Range) bool {
	i := sort.Search(len(list), func(i int) bool { return list[i].To >= part.To })
	return i < len(list) && list[i].From <= part.From
}
