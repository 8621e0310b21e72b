package dry_test

import (
	"slices"
	"testing"

	"cistern/api"
	"cistern/dry"
)

// placeOf follows the words of Place block by block.
func placeOf(v api.View, o api.Op) dry.Place {
	x, ok := modelOf(v).volumes[o.Name]
	if !ok {
		return dry.Place{}
	}
	p := dry.Place{Size: x.Size, Bare: true, Full: true}
	for l := o.From; l < o.To; l++ {
		p.Bare = p.Bare && !x.has[l]
		p.Full = p.Full && x.has[l]
	}
	return p
}

// checkPlaces holds what operations that nothing is against meet.
func checkPlaces(t *testing.T, v api.View, ops ...api.Op) {
	t.Helper()
	got, e := dry.Places(v, ops)
	if len(got) != len(ops) || e != api.OK {
		t.Fatalf("Places(%v) over %s = %v, %d", ops, told(v), got, e)
	}
	for i, o := range ops {
		ahead, _, _ := dry.All(v, ops[:i])
		if want := placeOf(ahead, o); got[i] != want {
			t.Errorf("over %s\n%s meets %v; want %v", told(ahead), toldOp(o), got[i], want)
		}
	}
}

// Every set of mapped blocks of a small volume, with every range of it.
func TestP21_2PlacesOfAllSmallMaps(t *testing.T) {
	const size = 6
	for set := range 1 << size {
		v := one(size, rangesOf(set)...)
		for from := range size + 1 {
			for to := from; to <= size; to++ {
				checkPlaces(t, v, discard("a", from, to))
				checkPlaces(t, v, fill("a", from, to), discard("a", from, to), fill("a", from, to))
			}
			checkPlaces(t, v, resize("a", from+1), resize("a", size), write("a", min(from, size-1)))
		}
	}
}

// Each operation meets what those ahead of it have left, whatever its volume is called by then.
func TestP21_2PlacesOneBehindTheOther(t *testing.T) {
	for _, o := range allKinds() {
		checkPlaces(t, crowd(), o)
	}
	checkPlaces(t, crowd())
	checkPlaces(t, crowd(), resize("a", 20), rename("a", "m"), resize("m", 7), fill("m", 0, 7), create("a", 9), fill("a", 0, 7), discard("m", 6, 7))
	checkPlaces(t, crowd(), restore("a", "e"), discard("a", 0, 40), restore("a", "c"), discard("a", 1, 45), fill("a", 45, 50), write("a", 3), discard("a", 3, 4))
	checkPlaces(t, crowd(), snap("n", "c"), remove("n"), clone("n", "a"), fill("n", 30, 40), extend(200), discard("n", 4, 6))
}

func TestP21_2PlacesOfDrawnLists(t *testing.T) {
	d := &drawing{seed: 7}
	refused := 0
	for range 1500 {
		v := d.start()
		var ops []api.Op
		for range d.below(15) {
			o := d.op(viewBehind(v, ops))
			if _, _, e := dry.All(v, append(slices.Clip(ops), o)); e == api.OK || d.below(30) == 0 {
				ops = append(ops, o)
			}
		}
		_, _, want := dry.All(v, ops)
		if want == api.OK {
			checkPlaces(t, v, ops...)
			continue
		}
		refused++
		if got, e := dry.Places(v, ops); len(got) > 0 || e != want {
			t.Errorf("Places(%v) = %v, %d; want %d", ops, got, e, want)
		}
	}
	if refused < 100 {
		t.Errorf("%d lists were refused", refused)
	}
}

// viewBehind gives the view behind operations of which none is refused, else an empty one.
func viewBehind(v api.View, ops []api.Op) api.View {
	behind, _, _ := dry.All(v, ops)
	return behind
}

// Places turns nothing that it is handed, and ends over views that may not be.
func TestR4PlacesTurnNothing(t *testing.T) {
	d := &drawing{seed: 8}
	for range 4000 {
		v, all := laid(d.wild())
		before, array := spareOf(v), slices.Clone(all)
		ops := []api.Op{d.wildOp(v), d.wildOp(v), d.wildOp(v)}
		got, e := dry.Places(v, ops)
		_, _, want := dry.All(v, ops)
		if e != want || e == api.OK && len(got) != 3 || e != api.OK && len(got) > 0 {
			t.Fatalf("Places = %v, %d; All has %d", got, e, want)
		}
		if spareOf(v) != before || !slices.Equal(all, array) {
			t.Fatalf("%s has become %s", before, spareOf(v))
		}
	}
}
