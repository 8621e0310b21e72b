package act_test

import (
	"bytes"
	"fmt"
	"math"
	"strings"
	"testing"

	"cistern/act"
	"cistern/api"
	"cistern/pool"
	"cistern/txn"
)

// crowd gives a pool with volumes of all sorts: a (with children, mapped), s of it, c (mapped), p and q (partial), e (empty).
func crowd(t *testing.T, capacity int) *world {
	t.Helper()
	w := newWorld(t, capacity, 30)
	for _, o := range []api.Op{
		create("a", 40), write("a", 0, full(1)), write("a", 1, full(2)), snap("s", "a"), clone("c", "a"), write("c", 2, full(3)),
		create("p", 40), write("p", 0, full(4)), create("q", 3), create("e", 40),
	} {
		w.step(o)
	}
	for _, name := range []string{"p", "q"} {
		w.setPartial(name)
		w.named(name).Partial = true
	}
	w.settle()
	return w
}

// settle commits.
func (w *world) settle() {
	w.t.Helper()
	w.commit()
	w.committed()
}

// choices gives operations of a kind with all of these fields, each in turn with all of the others.
func choices(kind int) []api.Op {
	var out []api.Op
	for _, name := range []string{"", "A", "z", "a", "c", "p"} {
		for _, other := range []string{"", "-", "z", "a", "c", "p"} {
			for _, from := range []int{0, -1, 3, 40} {
				for _, to := range []int{0, -1, 1, 30, 40, 41, 262144, 262145} {
					for _, data := range [][]byte{nil, full(9), full(9)[:511]} {
						out = append(out, api.Op{Kind: kind, Name: name, Other: other, From: from, To: to, Data: data})
					}
				}
			}
		}
	}
	return out
}

// asked is what errors have been met together: of a kind, the first one and another one that holds too.
type asked map[[3]int]bool

// checkOrder holds Do and Cost of an operation against the list of errors. What is done is taken back.
func (w *world) checkOrder(o api.Op, met asked) {
	w.t.Helper()
	h, want := w.holds(o), w.answer(o)
	first := 0
	for n := 13; n >= 1; n-- {
		if h[n] != api.OK {
			first = n
		}
	}
	for n := range h {
		met[[3]int{o.Kind, first, n}] = true
	}
	m := -1
	if want == api.OK {
		m = w.mark()
	}
	n, e := act.Cost(w.p, w.x, o)
	switch {
	case want == api.OK, want == api.ErrSpaceFull:
		if n != w.cost(o) || e != api.OK {
			w.t.Errorf("Cost(%s) = %d, %d; want %d", told(o), n, e, w.cost(o))
		}
	case n != 0 || e != want:
		w.t.Errorf("Cost(%s) = %d, %d; want 0, %d", told(o), n, e, want)
	}
	w.check(o, want)
	if m >= 0 {
		w.back(m)
	}
}

// Of all errors that hold the first one is answered; a refused call has no writes.
func TestP10_1TheOrderOfErrors(t *testing.T) {
	met := asked{}
	for _, room := range []string{"much", "little", "no volume"} {
		w := crowd(t, 60)
		switch room {
		case "little":
			w.take(2)
			w.commit()
			w.lost = w.abstract.free() - 2
		case "no volume":
			for i := range 58 {
				w.step(create(fmt.Sprintf("v%d", i), 1))
			}
			w.settle()
		}
		for kind := -1; kind <= 12; kind++ {
			for _, o := range choices(kind) {
				if want := w.answer(o); want != api.OK {
					w.checkOrder(o, met)
				}
			}
			w.checkUnwritten("a refused call")
			for _, o := range choices(kind) {
				if want := w.answer(o); want == api.OK {
					w.checkOrder(o, met)
				}
			}
			w.abort()
			if t.Failed() {
				t.Fatalf("the pool had %s room", room)
			}
		}
	}
	checkMet(t, met)
}

// checkMet holds that of each kind all errors were met first, with each that comes behind it and can hold too.
func checkMet(t *testing.T, met asked) {
	t.Helper()
	for kind, errors := range map[int][]int{
		1: {2, 3, 6, 7, 11}, 2: {2, 3, 5, 6, 9, 11}, 3: {2, 3, 5, 6, 9, 11}, 4: {2, 3, 5, 7, 9}, 5: {2, 3, 5, 6, 9}, 6: {2, 3, 5, 10},
		7: {2, 3, 5, 9}, 8: {2, 3, 4, 5, 8, 9}, 9: {2, 3, 5, 8, 9}, 10: {2, 3, 5, 8, 9}, 11: {2, 7, 12},
	} {
		for i, first := range errors {
			for _, other := range errors[i:] {
				if cannot(kind, first, other) {
					continue
				}
				if !met[[3]int{kind, first, other}] {
					t.Errorf("kind %d: error %d was not met ahead of error %d", kind, first, other)
				}
			}
		}
	}
	for _, kind := range []int{4, 8, 9, 10} {
		if !met[[3]int{kind, 13, 13}] {
			t.Errorf("kind %d was never refused for room", kind)
		}
	}
}

// cannot tells which errors cannot hold together: a volume that is not there, or has no name, is not taken, not partial and
// has no children. Where a kind uses two names, the other one can be so.
func cannot(kind int, first int, other int) bool {
	switch {
	case first == 3 && other == 6:
		return kind == api.OpCreate
	case first == 3 && (other == 9 || other == 10):
		return !isOne(kind, api.OpSnap, api.OpClone, api.OpRename, api.OpRestore)
	case first == 5 && (other == 9 || other == 10):
		return kind != api.OpRestore
	}
	return false
}

// Each field that a kind does not use, one at a time, not zero.
func TestP10_1FieldsThatAreNotUsed(t *testing.T) {
	b := used(t)
	for _, o := range allKinds() {
		u := uses(o.Kind)
		for field, set := range map[string][]func(o *api.Op){
			"N": {func(o *api.Op) { o.Name = "a" }, func(o *api.Op) { o.Name = "\x00" }, func(o *api.Op) { o.Name = "~" }},
			"O": {func(o *api.Op) { o.Other = "a" }, func(o *api.Op) { o.Other = "A" }, func(o *api.Op) { o.Other = o.Name + "~" }},
			"F": {func(o *api.Op) { o.From = 1 }, func(o *api.Op) { o.From = -1 }, func(o *api.Op) { o.From = math.MaxInt }, func(o *api.Op) { o.From = math.MinInt }},
			"T": {func(o *api.Op) { o.To = 1 }, func(o *api.Op) { o.To = -1 }, func(o *api.Op) { o.To = math.MaxInt }, func(o *api.Op) { o.To = math.MinInt }},
			"D": {func(o *api.Op) { o.Data = []byte{0} }, func(o *api.Op) { o.Data = full(0) }, func(o *api.Op) { o.Data = full(0)[:511] }},
		} {
			if strings.Contains(u, field) {
				continue
			}
			for _, change := range set {
				bad := o
				change(&bad)
				b.checkRefused(bad, api.ErrActForm)
			}
		}
		// An empty list is none (R1).
		if !strings.Contains(u, "D") {
			o.Data = make([]byte, 0, 512)
			if _, e := act.Cost(b.p, b.x, o); e != api.OK {
				t.Errorf("Cost(%s) with an empty list = %d", told(o), e)
			}
		}
	}
	b.checkUnwritten("a refused call")
}

func TestP10_1WhichKindsThereAre(t *testing.T) {
	b := used(t)
	for _, kind := range []int{math.MinInt, -1, 0, 12, 13, 255, 256, 257, 1 << 32, math.MaxInt} {
		for _, o := range choices(kind) {
			b.checkRefused(o, api.ErrActKind)
		}
	}
	b.checkUnwritten("a refused call")
	done := map[int]bool{}
	for _, o := range allKinds() {
		m := b.mark()
		b.do(o)
		done[o.Kind] = true
		b.back(m)
	}
	if len(done) != 11 {
		t.Errorf("%d kinds were done; want 11", len(done))
	}
}

// names gives names that may be, and some that may not: of each length, and with each byte at the first place and behind it.
func names() []string {
	out := []string{"", "a", "~", "z", strings.Repeat("a", 31), "~" + strings.Repeat("@", 30), strings.Repeat("a", 32), strings.Repeat("a", 300), "a\x00", "aé", "é"}
	for b := range 256 {
		sign := string([]byte{byte(b)})
		out = append(out, sign, sign+"a", "a"+sign, "a"+sign+"a", strings.Repeat("b", 30)+sign, strings.Repeat("b", 31)+sign)
	}
	return out
}

func TestP10_1WhichNamesThereMayBe(t *testing.T) {
	b := used(t)
	b.do(rename("a", "old"))
	m := b.mark()
	for _, name := range names() {
		want, wantRead := api.OK, api.ErrActUnknown
		if !isName(name) {
			want, wantRead = api.ErrActName, api.ErrActName
		}
		taken := name == "s" || name == "c" || name == "e" || name == "p"
		if taken {
			continue
		}
		b.check(create(name, 5), want)
		if want == api.OK {
			b.checkRead(name, 4, 0)
		}
		b.back(m)
		b.checkNoRead(name, 0, wantRead)
		b.check(rename("old", name), want)
		b.back(m)
		b.check(snap(name, "old"), want)
		b.back(m)
		b.check(restore("old", name), wantRead)
		b.check(restore(name, "old"), wantRead)
		b.check(clone("new", name), wantRead)
		b.check(remove(name), wantRead)
		b.check(resize(name, 5), wantRead)
		b.check(write(name, 0, full(1)), wantRead)
		b.check(discard(name, 0, 0), wantRead)
		b.check(fill(name, 0, 0), wantRead)
	}
}

// What is wrong with Data is said ahead of what is wrong with the volume.
func TestP10_1WhichDataThereMayBe(t *testing.T) {
	b := used(t)
	for _, size := range []int{0, 1, 511, 513, 1024, 100000} {
		for _, name := range []string{"a", "zz", "p"} {
			for _, from := range []int{0, -1, 5000} {
				b.checkRefused(write(name, from, make([]byte, size)), api.ErrActData)
			}
		}
	}
	b.checkRefused(write("a", 0, nil), api.ErrActData)
	b.checkUnwritten("a refused call")
	b.do(write("a", 0, make([]byte, 512)))
}

func TestP10_1WhichSizesThereMayBe(t *testing.T) {
	b := used(t)
	for _, to := range []int{math.MinInt, -1, 0, 262145, math.MaxInt} {
		b.checkRefused(create("n", to), api.ErrActSize)
		b.checkRefused(resize("a", to), api.ErrActSize)
		b.checkRefused(resize("p", to), api.ErrActSize)
		b.checkRefused(create("a", to), api.ErrActTaken)
		b.checkRefused(resize("zz", to), api.ErrActUnknown)
		b.checkRefused(extend(to), api.ErrActSize)
	}
	b.checkUnwritten("a refused call")
	for _, to := range []int{1, 2, 262143, 262144} {
		m := b.mark()
		b.do(create("n", to), resize("a", to))
		b.checkRead("n", to-1, 0)
		b.checkNoRead("a", to, api.ErrActRange)
		b.back(m)
	}
}

func TestP10_1WhichRangesThereMayBe(t *testing.T) {
	b := used(t)
	for _, name := range []string{"e", "p"} {
		size := b.entry(name).Size
		bad := api.OK
		if name == "p" {
			bad = api.ErrActPartial
		}
		for _, from := range []int{math.MinInt, -1, 0, 1, size - 1, size, size + 1, math.MaxInt} {
			want := bad
			if from < 0 || from >= size {
				want = api.ErrActRange
			}
			b.check(write(name, from, full(1)), want)
			for _, to := range []int{math.MinInt, -1, 0, 1, size - 1, size, size + 1, math.MaxInt} {
				want := bad
				if from < 0 || to > size || from > to {
					want = api.ErrActRange
				}
				b.check(discard(name, from, to), want)
				if from >= 0 && to <= size && to-from > 32 {
					want = api.ErrActRange
				}
				b.check(fill(name, from, to), want)
			}
		}
	}
	b.abort()
	for _, c := range []struct{ from, to int }{{0, 33}, {17, 50}, {0, 50}} {
		b.checkRefused(fill("e", c.from, c.to), api.ErrActRange)
		b.checkRefused(fill("p", 0, 20), api.ErrActPartial)
	}
	b.checkUnwritten("a refused call")
	for _, c := range []struct{ from, to int }{{0, 32}, {18, 50}, {50, 50}, {0, 0}, {49, 50}} {
		b.do(fill("e", c.from, c.to))
		b.abort()
	}
}

// A volume that is partial can be deleted, and else nothing.
func TestP10_1PartialVolumes(t *testing.T) {
	b := used(t)
	for _, o := range []api.Op{
		resize("p", 5), resize("p", 20), rename("p", "n"), restore("p", "a"), restore("a", "p"), restore("p", "p"), write("p", 0, full(1)),
		discard("p", 0, 20), discard("p", 3, 3), fill("p", 3, 4), fill("p", 0, 0), snap("n", "p"), clone("n", "p"),
	} {
		b.checkRefused(o, api.ErrActPartial)
	}
	b.checkNoRead("p", 3, api.ErrActPartial)
	b.checkRefused(create("p", 5), api.ErrActTaken)
	b.checkRefused(rename("a", "p"), api.ErrActTaken)
	b.checkUnwritten("a refused call")
	free := b.free()
	b.do(remove("p"))
	b.commit()
	b.checkFree(free + 4)
	b.do(create("p", 5))
	b.checkRead("p", 3, 0)
	// One that has children is not deleted, be it partial or not.
	b.setPartial("a")
	b.checkRefused(remove("a"), api.ErrActChildren)
	b.checkRefused(snap("a", "a"), api.ErrActTaken)
	b.do(remove("c"), remove("s"), remove("a"))
}

// 64 volumes, and one more.
func TestP10_1AsManyVolumesAsMayBe(t *testing.T) {
	b := made(t, 20, 0)
	for i := range 64 {
		switch i % 3 {
		case 0:
			b.do(create(fmt.Sprintf("v%d", i), 3))
		case 1:
			b.do(snap(fmt.Sprintf("v%d", i), fmt.Sprintf("v%d", i-1)))
		case 2:
			b.do(clone(fmt.Sprintf("v%d", i), fmt.Sprintf("v%d", i-1)))
		}
	}
	b.commit()
	b.checkRefused(create("z", 3), api.ErrCatalogFull)
	b.checkRefused(snap("z", "v0"), api.ErrCatalogFull)
	b.checkRefused(clone("z", "v0"), api.ErrCatalogFull)
	b.checkRefused(create("z", 0), api.ErrActSize)
	b.checkRefused(create("v0", 3), api.ErrActTaken)
	b.checkRefused(snap("z", "y"), api.ErrActUnknown)
	b.checkUnwritten("a refused call")
	if n := b.view().Next; n != 65 {
		t.Errorf("behind refused calls the next ID is %d; want 65", n)
	}
	b.do(rename("v0", "z"), remove("v63"), create("y", 3))
	b.checkVolume(api.Volume{Name: "y", ID: 65, Size: 3})
	b.checkRefused(create("x", 3), api.ErrCatalogFull)
}

// lastIDs says that of the catalog's numbers those from next on are left. No calls come to it in a test's time.
func (b *bench) lastIDs(next int) {
	b.t.Helper()
	const mark = "cistern's volumes"
	head := append([]byte{byte(len(mark))}, mark...)
	head = append(head, 0)
	blocks, _ := b.d.Blocks()
	for at := range blocks {
		page, e := b.x.Read(at)
		if e != api.OK || !bytes.HasPrefix(page, head) {
			continue
		}
		for i := range 4 {
			page[len(head)+i] = byte(next >> (8 * i))
		}
		if e := b.x.Write(at, page); e != api.OK {
			b.t.Fatalf("Write(%d) = %d", at, e)
		}
	}
	if n := b.view().Next; n != next {
		b.t.Fatalf("the next ID is %d; want %d", n, next)
	}
}

func TestP10_1WhereNoIDIsLeft(t *testing.T) {
	b := used(t)
	b.lastIDs(1 << 30)
	b.do(snap("n", "a"))
	b.commit()
	b.checkRefused(create("m", 5), api.ErrCatalogIDs)
	b.checkRefused(snap("m", "a"), api.ErrCatalogIDs)
	b.checkRefused(clone("m", "n"), api.ErrCatalogIDs)
	b.checkRefused(create("m", 0), api.ErrActSize)
	b.checkRefused(clone("m", "p"), api.ErrActPartial)
	b.checkUnwritten("a refused call")
	b.do(remove("n"))
	b.checkRefused(create("m", 5), api.ErrCatalogIDs)
	for i := len(b.view().Volumes); i < 64; i++ {
		v := api.Entry{Name: fmt.Sprintf("w%d", i), ID: 1000 + i, Size: 1}
		b.lay(v)
	}
	b.checkRefused(create("m", 5), api.ErrCatalogFull)
}

// checkAllRefused asks all calls, with arguments that are good and bad.
func checkAllRefused(t *testing.T, p *pool.Pool, x *txn.Txn, want api.Errno) {
	t.Helper()
	ops := append(allKinds(), api.Op{}, api.Op{Kind: 12}, create("A", 0), api.Op{Kind: 1, Name: "b", From: 1}, write("zz", -1, nil), extend(-1))
	for _, o := range ops {
		if e := act.Do(p, x, o); e != want {
			t.Errorf("Do(%s) = %d; want %d", told(o), e, want)
		}
		if n, e := act.Cost(p, x, o); n != 0 || e != want {
			t.Errorf("Cost(%s) = %d, %d; want 0, %d", told(o), n, e, want)
		}
	}
	for _, name := range []string{"", "A", "zz", "a", "p"} {
		for _, l := range []int{-1, 0, 5000} {
			if data, e := act.Read(p, x, name, l); len(data) != 0 || e != want {
				t.Errorf("Read(%q, %d) = %d bytes, %d; want none, %d", name, l, len(data), e, want)
			}
		}
	}
}

func TestR3ANilPool(t *testing.T) {
	b := used(t)
	over := b.x
	b.abort()
	for range 2 {
		for _, x := range []*txn.Txn{nil, b.x, over, {}} {
			checkAllRefused(t, nil, x, api.ErrNil)
		}
		b.darken()
	}
}

func TestP10WhichTransactionsAreTaken(t *testing.T) {
	b, other := used(t), used(t)
	b.do(create("n", 5))
	committed := b.x
	b.commit()
	aborted := b.x
	b.abort()
	before := b.view()
	checkAllRefused(t, b.p, nil, api.ErrNil)
	checkAllRefused(t, b.p, other.x, api.ErrTxnForeign)
	checkAllRefused(t, b.p, &txn.Txn{}, api.ErrTxnForeign)
	checkAllRefused(t, b.p, committed, api.ErrTxnOver)
	checkAllRefused(t, b.p, aborted, api.ErrTxnOver)
	other.darken()
	checkAllRefused(t, b.p, other.x, api.ErrTxnForeign)
	b.checkUnwritten("a call with another transaction")
	if fmt.Sprint(b.view()) != fmt.Sprint(before) {
		t.Errorf("a call with another transaction has changed something")
	}
	open := b.x
	b.darken()
	checkAllRefused(t, b.p, nil, api.ErrNil)
	for _, x := range []*txn.Txn{open, committed, aborted, other.x} {
		checkAllRefused(t, b.p, x, api.ErrDiskOff)
	}
}

// No call of this layer writes to the disk: no fuse burns.
func TestR5CallsThatWriteNothingToTheDisk(t *testing.T) {
	b := used(t)
	b.d.Fuse(0)
	before := b.pending()
	for _, o := range allKinds() {
		act.Cost(b.p, b.x, o)
		act.Do(b.p, b.x, o)
		act.Read(b.p, b.x, "a", 0)
		b.abort()
	}
	if !b.d.On() || b.pending() != before {
		t.Errorf("calls of a transaction have written to the disk")
	}
}

// refuse calls what is refused over a used pool: for each error of the list one and more.
func (b *bench) refuse() {
	b.t.Helper()
	for _, c := range []struct {
		o    api.Op
		want api.Errno
	}{
		{api.Op{Kind: 12}, api.ErrActKind}, {api.Op{Kind: 6, Name: "c", To: 1}, api.ErrActForm}, {create("A", 5), api.ErrActName},
		{write("a", 0, full(1)[:9]), api.ErrActData}, {remove("zz"), api.ErrActUnknown}, {snap("zz", "y"), api.ErrActUnknown},
		{create("a", 5), api.ErrActTaken}, {rename("a", "s"), api.ErrActTaken}, {resize("a", 0), api.ErrActSize}, {extend(300), api.ErrActSize},
		{write("a", 5000, full(1)), api.ErrActRange}, {discard("a", 0, 5001), api.ErrActRange}, {fill("a", 0, 33), api.ErrActRange},
		{fill("p", 0, 5), api.ErrActPartial}, {clone("n", "p"), api.ErrActPartial}, {remove("a"), api.ErrActChildren},
		{extend(337), api.ErrPoolSize},
	} {
		b.checkRefused(c.o, c.want)
	}
	b.checkNoRead("p", 0, api.ErrActPartial)
	b.checkNoRead("a", 5000, api.ErrActRange)
}

// Two pools that differ in refused calls alone are the same, to the last byte of their disks; and the marks are the caller's.
func TestR2RefusedCallsAmongWritesAndMarks(t *testing.T) {
	for _, end := range []string{"Commit", "Back", "Abort"} {
		var images [2][]byte
		for i := range images {
			b := used(t)
			refuse := func() {
				if i == 1 {
					b.refuse()
				}
			}
			checkMark := func(want int) {
				if n := b.mark(); n != want {
					t.Errorf("Mark() = %d; want %d", n, want)
				}
			}
			refuse()
			b.do(write("a", 5, full(5)))
			refuse()
			checkMark(0)
			b.do(write("a", 6, full(6)), discard("a", 0, 1))
			refuse()
			checkMark(1)
			b.do(fill("e", 0, 10), snap("n", "e"))
			b.back(1)
			refuse()
			checkMark(2)
			b.do(restore("e", "s"), write("e", 7, full(7)), extend(310))
			b.do(extend(311))
			checkMark(3)
			refuse310(b, i == 1)
			switch end {
			case "Back":
				b.back(0)
			case "Abort":
				b.abort()
			}
			b.commit()
			images[i] = b.image()
		}
		if !bytes.Equal(images[0], images[1]) {
			t.Errorf("refused calls ahead of %s leave another disk", end)
		}
	}
}

// refuse310 calls what is refused in a pool that was extended.
func refuse310(b *bench, does bool) {
	b.t.Helper()
	if does {
		b.checkRefused(extend(311), api.ErrActSize)
		b.checkRefused(extend(337), api.ErrPoolSize)
		b.checkRefused(remove("a"), api.ErrActChildren)
	}
}

// A transaction with operations is all or nothing, whatever is refused within it.
func TestP10_1AbortTakesAllBack(t *testing.T) {
	b := used(t)
	before := fmt.Sprint(b.view())
	for _, o := range allKinds() {
		b.do(o)
		b.refuseSome()
		b.abort()
		if fmt.Sprint(b.view()) != before {
			t.Errorf("behind Abort something is left of %s", told(o))
		}
		b.checkUnwritten("an operation that was given up")
	}
}

func (b *bench) refuseSome() {
	b.t.Helper()
	b.checkRefused(create("A", 5), api.ErrActName)
	b.checkRefused(remove("zz"), api.ErrActUnknown)
}

// A root with as many references as may be cannot be shared once more: that goes up, and nothing is changed.
func TestR2WhatTheMapAnswersGoesUp(t *testing.T) {
	b := used(t)
	root := b.entry("a").Root
	for n, _ := b.p.Space().Count(b.x, root); n < 250; n++ {
		if e := b.p.Map().Share(b.x, root); e != api.OK {
			t.Fatalf("Share = %d", e)
		}
	}
	b.commit()
	before := b.image()
	b.check(snap("n", "a"), api.ErrSpaceRefs)
	b.check(clone("n", "a"), api.ErrSpaceRefs)
	b.check(restore("e", "a"), api.ErrSpaceRefs)
	b.checkCost(snap("n", "a"), 0)
	b.do(restore("a", "a"))
	b.checkUnwritten("a refused call")
	if !bytes.Equal(b.image(), before) {
		t.Errorf("a call that is refused for references has changed something")
	}
	// It can be written: the copy takes a reference from it.
	b.do(write("a", 0, full(9)), snap("n", "a"))
}

func TestR4WhatIsHandedInIsNotKept(t *testing.T) {
	b := used(t)
	data := append(make([]byte, 0, 1024), full(77)...)
	spare := data[:1024]
	for i := range 512 {
		spare[512+i] = 88
	}
	b.do(write("a", 3, data))
	act.Cost(b.p, b.x, write("a", 4, data))
	if !bytes.Equal(spare[:512], full(77)) || !bytes.Equal(spare[512:], full(88)) {
		t.Errorf("Do has changed what was handed in")
	}
	for i := range spare {
		spare[i] = 99
	}
	b.checkRead("a", 3, 77)
	b.commit()
	b.checkRead("a", 3, 77)
}

func TestR4WhatIsHandedOutIsNew(t *testing.T) {
	b := used(t)
	for _, l := range []int{0, 2, 64} {
		first, want := b.read("a", l), b.read("a", l)
		for i := range first {
			first[i] = 99
		}
		_ = append(first, 1, 2, 3)
		if again := b.read("a", l); !bytes.Equal(again, want) {
			t.Errorf("who writes into what Read(a, %d) gave changes what it gives later", l)
		}
	}
	b.checkUnwritten("Read")
	for _, l := range []int{0, 2, 64} {
		if bytes.Equal(b.read("a", l), full(99)) {
			t.Errorf("who writes into what Read(a, %d) gave changes the pool", l)
		}
	}
}
