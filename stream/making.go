package stream

import (
	"cistern/act"
	"cistern/api"
	"cistern/pool"
	"cistern/txn"
	"cistern/vol"
)

// making is a volume that is made of a stream.
type making struct {
	*pool.Pool
	name   string
	stream content
	isLeft bool // an Import that did not come to its end has left a volume of the name
}

// prepare asks all that an Import is refused for ahead of what it does.
func (s sight) prepare(name string, data []byte) (making, api.Errno) {
	if e := vol.AskIdle(s.Pool, s.t); e != api.OK {
		return making{}, e
	}
	c, e := taken(data)
	if e != api.OK {
		return making{}, e
	}
	v, e := vol.Named(s.Pool, s.t, name)
	switch {
	case e != api.OK && e != api.ErrActUnknown:
		return making{}, e
	case e == api.OK && !v.Partial:
		return making{}, api.ErrStreamTaken
	}
	isLeft := e == api.OK
	if c.since != "" {
		if e := s.askBase(c); e != api.OK {
			return making{}, e
		}
	}
	return making{Pool: s.Pool, name: name, stream: c, isLeft: isLeft}, api.OK
}

// askBase answers ErrStreamBase, if the base is not there as it was.
func (s sight) askBase(c content) api.Errno {
	base, e := s.Catalog().Find(s.t, c.since)
	if e == api.ErrCatalogNone || e == api.OK && (base.Partial || base.Size != c.size) {
		return api.ErrStreamBase
	}
	if e != api.OK {
		return e
	}
	mapped, e := s.mapped(base)
	if e != api.OK {
		return e
	}
	sum, e := s.sum(mapped)
	if e == api.OK && sum != c.sum {
		return api.ErrStreamBase
	}
	return e
}

// make makes the volume, and takes it back, if the pool refuses a step.
func (m making) make() api.Errno {
	if m.isLeft {
		if e := m.remove(); e != api.OK {
			return e
		}
	}
	if e := m.do(m.beginning()); e != api.OK {
		return e
	}
	refused := m.fill()
	if refused == api.OK {
		return api.OK
	}
	if e := m.remove(); e != api.OK {
		return e
	}
	return refused
}

// do does an operation over the volume, as a transaction of its own: so what it lets go is free for the next one.
func (m making) do(o api.Op) api.Errno {
	return vol.Within(m.Pool, func(t *txn.Txn) api.Errno { return act.Build(m.Pool, t, o) })
}

func (m making) remove() api.Errno { return m.do(api.Op{Kind: api.OpDelete, Name: m.name}) }

// beginning gives the operation that makes the volume as it is ahead of all runs.
func (m making) beginning() api.Op {
	if m.stream.since == "" {
		return api.Op{Kind: api.OpCreate, Name: m.name, To: m.stream.size}
	}
	return api.Op{Kind: api.OpClone, Name: m.name, Other: m.stream.since}
}

// fill lays the runs; behind the last of them the volume is whole.
func (m making) fill() api.Errno {
	for _, r := range m.stream.runs {
		if e := r.lay(m); e != api.OK {
			return e
		}
	}
	return vol.Within(m.Pool, m.end)
}

func (m making) end(t *txn.Txn) api.Errno {
	v, e := m.Catalog().Find(t, m.name)
	if e != api.OK {
		return e
	}
	v.Partial = false
	return m.Catalog().Put(t, v)
}
