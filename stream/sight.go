package stream

import (
	"bytes"
	"cmp"

	"cistern/api"
	"cistern/catalog"
	"cistern/delta"
	"cistern/field"
	"cistern/pool"
	"cistern/txn"
	"cistern/vol"
)

// sight is a pool as a transaction sees it.
type sight struct {
	*pool.Pool
	t *txn.Txn
}

// tell gives what a stream tells of a volume, or of what it has become since another.
func (s sight) tell(name string, since string) (content, api.Errno) {
	// Of a whole stream the volume stands for the base: nothing is asked of it then that is not asked of the volume.
	v, base, e := s.find(name, cmp.Or(since, name))
	if e != api.OK {
		return content{}, e
	}
	mapped, e := s.mapped(v)
	if e != api.OK {
		return content{}, e
	}
	c := content{name: name, size: v.Size, since: since}
	if since != "" {
		if mapped, c.sum, e = s.over(mapped, base); e != api.OK {
			return content{}, e
		}
	}
	c.runs = s.runs(mapped)
	return c, api.OK
}

// find gives a volume and its base. What one of them is refused for first is asked of both ahead of what comes next.
func (s sight) find(name string, since string) (api.Entry, api.Entry, api.Errno) {
	none := api.Entry{}
	if !catalog.IsName(name) || !catalog.IsName(since) {
		return none, none, api.ErrActName
	}
	v, e := vol.Named(s.Pool, s.t, name)
	if e != api.OK {
		return none, none, e
	}
	base, e := vol.Named(s.Pool, s.t, since)
	switch {
	case e != api.OK:
		return none, none, e
	case v.Partial || base.Partial:
		return none, none, api.ErrActPartial
	case v.Size != base.Size:
		return none, none, api.ErrStreamSince
	}
	return v, base, api.OK
}

// mapped gives what of a volume is mapped. What lies at or above its size is no part of it.
func (s sight) mapped(v api.Entry) ([]api.Pair, api.Errno) {
	return s.Map().Pairs(s.t, v.Root, 0, v.Size)
}

// over gives of which logical blocks a stream over a base tells, each with the pool block that holds it, 0: it is gone; and the
// base's sum.
func (s sight) over(mapped []api.Pair, base api.Entry) ([]api.Pair, uint32, api.Errno) {
	below, e := s.mapped(base)
	if e != api.OK {
		return nil, 0, e
	}
	sum, e := s.sum(below)
	if e != api.OK {
		return nil, 0, e
	}
	var told []api.Pair
	for l, x := range delta.SideBySide(mapped, below) {
		is, e := s.isTold(x)
		if e != api.OK {
			return nil, 0, e
		}
		if is {
			told = append(told, api.Pair{Logical: l, Block: x.A})
		}
	}
	return told, sum, api.OK
}

// isTold tells whether a stream tells of a block that a volume, its base or both have. Of two blocks it counts what they hold, not
// which ones they are.
func (s sight) isTold(x delta.Both) (bool, api.Errno) {
	if x.A == 0 || x.B == 0 {
		return true, api.OK
	}
	if x.A == x.B {
		return false, api.OK
	}
	mine, e := s.read(x.A)
	if e != api.OK {
		return false, e
	}
	below, e := s.read(x.B)
	if e != api.OK {
		return false, e
	}
	return !bytes.Equal(mine, below), api.OK
}

// sum gives the sum of a volume.
func (s sight) sum(mapped []api.Pair) (uint32, api.Errno) {
	sum := uint32(0)
	for _, pair := range mapped {
		block, e := s.read(pair.Block)
		if e != api.OK {
			return 0, e
		}
		sum = field.SumOn(field.SumOn(sum, packed(pair.Logical, blockWidth)), block)
	}
	return sum, api.OK
}

// read gives what a pool block holds.
func (s sight) read(block int) ([]byte, api.Errno) {
	at, e := s.Place(block)
	if e != api.OK {
		return nil, e
	}
	return s.t.Read(at)
}

// runs gives the runs of the blocks of which a stream tells, as long as can be.
func (s sight) runs(told []api.Pair) []run {
	var runs []run
	for len(told) > 0 {
		count := 1
		for count < len(told) && areOne(told[count-1], told[count]) {
			count++
		}
		runs = append(runs, s.run(told[:count]))
		told = told[count:]
	}
	return runs
}

// areOne tells whether a block and the one of which a stream tells next stand in one run.
func areOne(a api.Pair, b api.Pair) bool {
	return a.Logical+1 == b.Logical && (a.Block == 0) == (b.Block == 0)
}

// run gives the run of blocks that stand in one.
func (s sight) run(told []api.Pair) run {
	r := api.Range{From: told[0].Logical, To: told[len(told)-1].Logical + 1}
	if told[0].Block == 0 {
		return goneRun{r}
	}
	return dataRun{Range: r, source: stored{s, told}}
}
