package vol_test

import (
	"bytes"
	"testing"

	"cistern/api"
	"cistern/field"
	"cistern/pool"
	"cistern/vol"
)

// Over a pool of which a block is spoilt the calls end and do not panic, and behind each of them no transaction is open.
func TestP11ASpoiltPool(t *testing.T) {
	blocks, _ := used(t).d.Blocks()
	for at := range blocks {
		for _, change := range []func(page []byte) []byte{
			func([]byte) []byte { return full(0) },
			func([]byte) []byte { return noise(512, uint32(at)) },
			turned(20), turned(40), turned(100),
		} {
			b := used(t)
			if !b.spoil(at, change) {
				break
			}
			b.askAll()
		}
	}
}

// spoil commits another block in the place of one. It answers whether there is one that is in use, and the pool opens.
func (b *bench) spoil(at int, change func(page []byte) []byte) bool {
	b.t.Helper()
	x := b.begin()
	page, e := x.Read(at)
	if e != api.OK || bytes.Equal(page, full(0)) {
		x.Abort()
		return false
	}
	if e := x.Write(at, change(page)); e != api.OK {
		b.t.Fatalf("Write(%d) = %d", at, e)
	}
	b.commit(x)
	p, e := pool.Open(b.d)
	b.p = p
	return e == api.OK
}

// turned gives a change of one byte.
func turned(at int) func(page []byte) []byte {
	return func(page []byte) []byte {
		out := bytes.Clone(page)
		out[at] ^= 85
		return out
	}
}

// askAll asks all calls; what they answer nobody has promised, but that beside an error nothing is told.
func (b *bench) askAll() {
	b.t.Helper()
	if v, e := vol.View(b.p); e != api.OK && (v.Capacity != 0 || v.Free != 0 || v.Next != 0 || len(v.Volumes) != 0) {
		b.t.Errorf("View() = %v, %d", v, e)
	}
	b.checkClosed("View")
	for _, name := range []string{"a", "s", "c", "e", "p"} {
		for _, l := range []int{0, 64, 4999} {
			if data, e := vol.Read(b.p, name, l); (e == api.OK) != (len(data) == 512) || e != api.OK && len(data) > 0 {
				b.t.Errorf("Read(%q, %d) = %d bytes, %d", name, l, len(data), e)
			}
			b.checkClosed("Read")
		}
		if ranges, e := vol.Mapped(b.p, name); e != api.OK && len(ranges) > 0 {
			b.t.Errorf("Mapped(%q) = %v, %d", name, ranges, e)
		}
		b.checkClosed("Mapped")
	}
	for _, o := range allKinds() {
		vol.Do(b.p, o)
		b.checkClosed("Do")
	}
}

// A slot that is spoilt: Do is refused for it ahead of the operation, and all else is told.
func TestP11_1ASlotThatIsSpoilt(t *testing.T) {
	b := used(t)
	b.setSlot(running(remove("a")))
	blocks, _ := b.d.Blocks()
	spoilt := false
	for at := range blocks {
		x := b.begin()
		page, e := x.Read(at)
		if e == api.OK && isSlotPage(page) {
			if e := x.Write(at, noise(512, 1)); e != api.OK {
				t.Fatalf("Write(%d) = %d", at, e)
			}
			spoilt = true
			b.commit(x)
			break
		}
		x.Abort()
	}
	if !spoilt {
		t.Fatalf("no block of the slot is found")
	}
	for _, o := range append(allKinds(), create("A", 0), api.Op{Kind: 12}) {
		b.checkRefused(o, api.ErrPoolSlot)
	}
	b.checkTold()
}

// isSlotPage tells a block that the pool's slot lies in by the kind that it is stamped with.
func isSlotPage(page []byte) bool {
	kind, _, _, e := field.Unstamp(page)
	return kind == 93 && e == api.OK
}
