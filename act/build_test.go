package act_test

import (
	"fmt"
	"testing"

	"cistern/act"
	"cistern/api"
)

// build builds by operations that are not refused.
func (b *bench) build(ops ...api.Op) {
	b.t.Helper()
	for _, o := range ops {
		b.checkBuild(o, api.OK)
	}
}

func (b *bench) checkBuild(o api.Op, want api.Errno) {
	b.t.Helper()
	if e := act.Build(b.p, b.x, o); e != want {
		b.t.Errorf("Build(%s) = %d; want %d", told(o), e, want)
	}
}

// A volume that is built is Partial from its beginning on: Do leaves it alone, and Build goes on with it.
func TestP10_1BuildMakesPartialVolumes(t *testing.T) {
	b := used(t)
	next := b.view().Next
	b.build(create("n", 30), clone("m", "s"))
	b.checkVolume(api.Volume{Name: "n", ID: next, Size: 30, Partial: true})
	b.checkVolume(api.Volume{Name: "m", ID: next + 1, Size: 5000, Origin: 2, Partial: true, Mapped: b.view().Volumes[b.place("s")].Mapped})
	for _, o := range []api.Op{write("n", 3, full(1)), discard("m", 0, 2), fill("n", 0, 5), resize("n", 20), clone("z", "n")} {
		b.checkRefused(o, api.ErrActPartial)
	}
	b.build(write("n", 3, full(1)), fill("n", 4, 6), discard("n", 5, 6), discard("m", 1, 5000), write("m", 0, full(77)))
	b.checkVolume(api.Volume{Name: "n", ID: next, Size: 30, Partial: true, Mapped: []api.Range{{From: 3, To: 5}}})
	b.checkVolume(api.Volume{Name: "m", ID: next + 1, Size: 5000, Origin: 2, Partial: true, Mapped: []api.Range{{From: 0, To: 1}}})
	b.checkRead("s", 0, 1)
	b.build(remove("n"), remove("m"))
	b.checkVolume(api.Volume{Name: "p", ID: 5, Size: 20, Partial: true, Mapped: []api.Range{{From: 3, To: 4}}})
}

// place gives where a volume stands in the view.
func (b *bench) place(name string) int {
	b.t.Helper()
	for i, v := range b.view().Volumes {
		if v.Name == name {
			return i
		}
	}
	b.t.Fatalf("there is no volume %q", name)
	return 0
}

// Nothing comes from a Partial volume, be it built or done.
func TestP10_1NothingIsBuiltOfAPartialVolume(t *testing.T) {
	b := used(t)
	for _, o := range []api.Op{snap("n", "p"), clone("n", "p"), restore("a", "p"), restore("e", "p")} {
		b.checkBuild(o, api.ErrActPartial)
	}
	b.checkUnwritten("a refused call")
}

// But for that Build is refused as Do is, and over volumes that are whole it does the same.
func TestP10_1BuildIsAsDoOtherwise(t *testing.T) {
	for _, o := range allKinds() {
		one, two := used(t), used(t)
		one.do(o)
		two.build(o)
		if o.Kind == api.OpCreate || o.Kind == api.OpSnap || o.Kind == api.OpClone {
			one.setPartial(o.Name)
		}
		if got, want := fmt.Sprint(two.view()), fmt.Sprint(one.view()); got != want {
			t.Errorf("behind Build(%s) View() = %s; want %s", told(o), got, want)
		}
	}
	b := used(t)
	for _, o := range []api.Op{
		{}, {Kind: 12}, {Kind: 6, Name: "p", To: 1}, create("A", 0), create("p", 0), create("n", 0), write("p", 0, nil), write("p", 20, full(1)),
		write("zz", 0, full(1)), discard("p", 3, 21), fill("p", 5, 4), resize("p", 0), remove("a"), rename("p", "a"), extend(300), extend(337),
	} {
		b.checkBuild(o, act.Do(b.p, b.x, o))
		if act.Build(b.p, b.x, o) == api.OK {
			t.Errorf("Build(%s) is done", told(o))
		}
	}
	b.checkUnwritten("a refused call")
	b.take(0)
	b.checkBuild(write("p", 4, full(1)), api.ErrSpaceFull)
	b.checkBuild(write("p", 3, full(1)), api.OK)
	if e := act.Build(nil, b.x, remove("p")); e != api.ErrNil {
		t.Errorf("Build over a nil pool = %d", e)
	}
	if e := act.Build(b.p, nil, remove("p")); e != api.ErrNil {
		t.Errorf("Build in a nil transaction = %d", e)
	}
}
