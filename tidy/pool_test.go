package tidy_test

import (
	"fmt"
	"testing"

	"cistern/api"
	"cistern/disk"
	"cistern/dry"
	"cistern/pool"
	"cistern/tidy"
	"cistern/vol"
)

// poolBehind gives a new pool with much room behind some operations.
func poolBehind(t *testing.T, ops []api.Op) *pool.Pool {
	t.Helper()
	const capacity = 2000
	blocks, e := pool.Needed(capacity + 40)
	if e != api.OK {
		t.Fatalf("Needed = %d", e)
	}
	d, _ := disk.New(blocks)
	if e := pool.Format(d, capacity); e != api.OK {
		t.Fatalf("Format = %d", e)
	}
	p, e := pool.Open(d)
	if e != api.OK {
		t.Fatalf("Open = %d", e)
	}
	do(t, p, ops)
	return p
}

func do(t *testing.T, p *pool.Pool, ops []api.Op) {
	t.Helper()
	for _, o := range ops {
		if e := vol.Do(p, o); e != api.OK {
			t.Fatalf("Do(%s) = %d", told([]api.Op{o}), e)
		}
	}
}

func viewOf(t *testing.T, p *pool.Pool) api.View {
	t.Helper()
	v, e := vol.View(p)
	if e != api.OK {
		t.Fatalf("View = %d", e)
	}
	return v
}

// readAll tells what each block of each volume reads.
func readAll(t *testing.T, p *pool.Pool) string {
	t.Helper()
	out := ""
	for _, x := range viewOf(t, p).Volumes {
		for l := range x.Size {
			b, e := vol.Read(p, x.Name, l)
			if e != api.OK {
				t.Fatalf("Read(%s, %d) = %d", x.Name, l, e)
			}
			if b[0] != 0 || b[511] != 0 {
				out += fmt.Sprintf("%s/%d: %d %d; ", x.Name, l, b[0], b[511])
			}
		}
	}
	return out
}

// Over a pool, whose view both lists are tidied over: it comes to the same view, and every volume reads the same.
func TestP25_1OverAPool(t *testing.T) {
	d := &drawing{seed: 11}
	spared := 0
	for range 60 {
		first := list(t, "create a 12; create b 40; create c 5")
		for l := range 12 {
			first = append(first, api.Op{Kind: api.OpWrite, Name: "a", From: l * 7 % 12, Data: data(100 + l)}, api.Op{Kind: api.OpWrite, Name: "b", From: l * 3, Data: data(150 + l)})
		}
		first = append(first, list(t, "snap d of a; discard a 3 6; write c 1 99; fill c 3 5; write d 4 98")...)
		p, q := poolBehind(t, first), poolBehind(t, first)
		v := viewOf(t, p)
		ops := d.list(v, 30)
		for len(ops) > 0 {
			if _, _, e := dry.All(v, ops); e == api.OK {
				break
			}
			ops = ops[:len(ops)-1]
		}
		shorter, e := tidy.Ops(v, ops)
		if e != api.OK {
			t.Fatalf("Ops(%s) = %d", told(ops), e)
		}
		do(t, p, ops)
		do(t, q, shorter)
		if one, other := viewOf(t, p), viewOf(t, q); !dry.Same(one, other) || readAll(t, p) != readAll(t, q) {
			t.Fatalf("%s comes to %s, which reads %s\n%s to %s, which reads %s", told(ops), toldView(one), readAll(t, p), told(shorter), toldView(other), readAll(t, q))
		}
		spared += len(ops) - len(shorter)
	}
	if spared < 60 {
		t.Errorf("%d operations were spared", spared)
	}
}
