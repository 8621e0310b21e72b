package scope

import "cistern/api"

// unfolding is the list of clauses as it comes to be.
type unfolding struct {
	reckoner
	clauses []api.Clause
	rounds  int // that were begun
}

// block unfolds a block's clauses. What they bind stays in the map behind them: nobody asks for it there, as the look has seen.
func (u *unfolding) block(clauses []clause) {
	for _, c := range clauses {
		u.clause(c)
	}
}

func (u *unfolding) clause(c clause) {
	switch c := c.(type) {
	case let:
		u.bound[c.word] = u.number(c.number)
	case repeat:
		u.repeat(c)
	case when:
		if u.holds(c.condition) {
			u.block(c.block)
		} else {
			u.block(c.other)
		}
	case listed:
		u.list(c)
	}
}

func (u *unfolding) repeat(c repeat) {
	from, to := u.number(c.from), u.number(c.to)
	for i := from; i <= to; i++ {
		if u.rounds == api.MaxTokens {
			panic(fault{c.at, api.ErrScopeMany})
		}
		u.rounds++
		u.bound[c.word] = i
		u.block(c.block)
	}
}

func (u *unfolding) list(c listed) {
	if len(u.clauses) == api.MaxClauses {
		panic(fault{c.at, api.ErrScopeMany})
	}
	made := api.Clause{Kind: c.kind, Thick: c.isThick, At: c.at}
	if c.name != nil {
		made.Name = u.name(c.name)
	}
	if c.number != nil {
		made.Number = u.number(c.number)
	}
	if c.other != nil {
		made.Other = u.name(c.other)
	}
	u.clauses = append(u.clauses, made)
}
