package engine

import (
	"errors"

	"cistern/act"
	"cistern/api"
	"cistern/pool"
	"cistern/txn"
)

// refusal is the error of an operation that the pool's rules are against: the program ends with it. Every other error is the
// step's own, and the program stays where it is.
type refusal struct{ error }

func (r refusal) Unwrap() error { return r.error }

// step does the next operation of a program, and gives the slot behind it.
func step(p *pool.Pool, t *txn.Txn, s api.Slot) (api.Slot, error) {
	if s.State != api.SlotRunning {
		return api.Slot{}, api.ErrEngineIdle
	}
	err := do(p, t, s.Ops[s.Counter])
	var r refusal
	switch {
	case err == nil:
		return reached(s.Ops, s.Counter+1), nil
	case errors.As(err, &r):
		s.State, s.Code = api.SlotAborted, numberOf(r)
		return s, nil
	}
	return api.Slot{}, err
}

// do does an operation. One that is refused leaves the transaction as it was.
func do(p *pool.Pool, t *txn.Txn, o api.Op) error {
	e := act.Do(p, t, o)
	if isRule(e) {
		return refusal{e}
	}
	return errorOf(e)
}

// isRule tells whether an error is one of those that P10.1 names.
func isRule(e api.Errno) bool {
	switch e {
	case api.ErrCatalogFull, api.ErrCatalogIDs, api.ErrPoolSize, api.ErrSpaceFull:
		return true
	}
	return e >= api.ErrActKind && e <= api.ErrActChildren
}

// errorOf gives a number as an error: OK is none.
func errorOf(e api.Errno) error {
	if e == api.OK {
		return nil
	}
	return e
}

// numberOf gives the number that an error has, or that stands behind it.
func numberOf(err error) api.Errno {
	e := api.OK
	errors.As(err, &e)
	return e
}
