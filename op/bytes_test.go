package op_test

import (
	"bytes"
	"slices"
	"strings"
	"testing"

	"cistern/api"
	"cistern/op"
)

func TestP16_2EachKind(t *testing.T) {
	data := noise(512, 3)
	want := [][]byte{
		[]byte("\x01\x01a\x0a\x00\x00\x00"),
		[]byte("\x02\x01s\x01a"),
		[]byte("\x03\x04~c.1\x01s"),
		[]byte("\x04\x05vol-2\x00\x00\x04\x00"),
		[]byte("\x05\x01a\x04b_@~"),
		[]byte("\x06\x06monday"),
		[]byte("\x07\x01a\x01s"),
		append([]byte("\x08\x01a\xff\xff\x03\x00"), data...),
		[]byte("\x09\x01a\x00\x00\x00\x00\x00\x00\x04\x00"),
		[]byte("\x0a\x01a\xe8\x03\x00\x00\x08\x04\x00\x00"),
		[]byte("\x0b\x00\x01\x00\x00"),
	}
	for i, o := range each() {
		checkEncode(t, list(o), want[i])
		checkDecode(t, want[i], list(o))
	}
	checkEncode(t, each(), bytes.Join(want, nil))
	checkDecode(t, bytes.Join(want, nil), each())
	backwards := each()
	slices.Reverse(backwards)
	slices.Reverse(want)
	checkEncode(t, backwards, bytes.Join(want, nil))
	checkDecode(t, bytes.Join(want, nil), backwards)
}

func TestP16_2NoneAndMany(t *testing.T) {
	checkEncode(t, nil, nil)
	checkEncode(t, []api.Op{}, nil)
	checkDecode(t, nil, nil)
	checkDecode(t, []byte{}, nil)
	many := slices.Repeat(each(), 2000)
	checkEncode(t, many, laid(many...))
	checkDecode(t, laid(many...), many)
	deletes := slices.Repeat(list(remove(strings.Repeat("d", 31))), 100000)
	checkEncode(t, deletes, laid(deletes...))
	checkDecode(t, laid(deletes...), deletes)
}

// refusals gives for each error of Check an operation that has it.
func refusals() map[api.Errno]api.Op {
	return map[api.Errno]api.Op{
		api.ErrActKind:  {Kind: 12},
		api.ErrActForm:  {Kind: api.OpDelete, Name: "a", To: 1},
		api.ErrActName:  remove("A"),
		api.ErrActData:  write("a", 0, make([]byte, 511)),
		api.ErrActSize:  create("a", 0),
		api.ErrActRange: fill("a", 0, 33),
	}
}

func TestP16_2Refused(t *testing.T) {
	for want, bad := range refusals() {
		checkRefused(t, list(bad), want)
		checkRefused(t, list(create("a", 10), bad), want)
		checkRefused(t, list(create("a", 10), bad, remove("a")), want)
		checkRefused(t, append(slices.Repeat(each(), 50), bad), want)
		for second, other := range refusals() {
			checkRefused(t, list(bad, other), want)
			checkRefused(t, list(remove("a"), other, bad, remove("a")), second)
		}
	}
}

func TestP16_3EveryBeginning(t *testing.T) {
	for _, ops := range [][]api.Op{each(), list(write("a", 0, noise(512, 5)), write("b", 1, noise(512, 6))), list(remove(strings.Repeat("z", 31)), extend(1))} {
		all := laid(ops...)
		ends := map[int]int{}
		for i := range len(ops) + 1 {
			ends[len(laid(ops[:i]...))] = i
		}
		for length := range len(all) + 1 {
			// What stands behind the beginning, in the same memory, makes no difference.
			if i, ok := ends[length]; ok {
				checkDecode(t, all[:length], ops[:i])
			} else {
				checkNoDecode(t, all[:length], api.ErrOpCut)
			}
		}
	}
}

func TestP16_3Kinds(t *testing.T) {
	for kind := range 256 {
		want := api.ErrOpForm
		if kind >= 1 && kind <= 11 {
			want = api.ErrOpCut
		}
		checkNoDecode(t, []byte{byte(kind)}, want)
		checkNoDecode(t, append(laid(remove("a")), byte(kind)), want)
	}
	for _, kind := range []byte{0, 12, 255} {
		for _, behind := range [][]byte{nil, {0}, {1}, laid(each()...), make([]byte, 600)} {
			checkNoDecode(t, append([]byte{kind}, behind...), api.ErrOpForm)
			checkNoDecode(t, append(append(laid(create("a", 1)), kind), behind...), api.ErrOpForm)
		}
	}
}

func TestP16_3Names(t *testing.T) {
	// A length that reaches past the end is told ahead of that no name is so long.
	for length := 1; length < 256; length++ {
		checkNoDecode(t, []byte{6, byte(length)}, api.ErrOpCut)
		checkNoDecode(t, append([]byte{6, byte(length)}, strings.Repeat("a", length-1)...), api.ErrOpCut)
		checkNoDecode(t, append([]byte{5, 1, 'a', byte(length)}, strings.Repeat("a", length-1)...), api.ErrOpCut)
		name := strings.Repeat("a", length)
		if length <= 31 {
			checkDecode(t, laid(remove(name)), list(remove(name)))
			checkDecode(t, laid(rename("a", name)), list(rename("a", name)))
			continue
		}
		checkNoDecode(t, laid(remove(name)), api.ErrOpForm)
		checkNoDecode(t, laid(rename("a", name)), api.ErrOpForm)
		checkNoDecode(t, laid(rename(name, "a")), api.ErrOpForm)
		// Of a name that is too long, with a field cut off behind it, the cut is told.
		checkNoDecode(t, laid(create(name, 1))[:length+5], api.ErrOpCut)
		checkNoDecode(t, laid(create(name, 1)), api.ErrOpForm)
	}
	for kind := 1; kind <= 10; kind++ {
		checkNoDecode(t, laid(ofKind(kind, withName(""))), api.ErrOpForm)
		checkNoDecode(t, laid(ofKind(kind, withName("0"))), api.ErrOpForm)
		checkNoDecode(t, laid(ofKind(kind, withName("a b"))), api.ErrOpForm)
		if strings.Contains(uses[kind], "O") {
			checkNoDecode(t, laid(ofKind(kind, withOther(""))), api.ErrOpForm)
			checkNoDecode(t, laid(ofKind(kind, withOther("A"))), api.ErrOpForm)
		}
	}
	// No name, and the end just behind its length.
	checkNoDecode(t, []byte{6, 0}, api.ErrOpForm)
	checkNoDecode(t, []byte{5, 0}, api.ErrOpCut)
	checkNoDecode(t, []byte{5, 0, 0}, api.ErrOpForm)
	checkNoDecode(t, []byte{1, 0, 0, 0, 0}, api.ErrOpCut)
}

func TestP16_3Numbers(t *testing.T) {
	numbers := []int{0, 1, 2, 31, 32, 33, 255, 256, 65536, 262112, 262143, 262144, 262145, 1 << 24, 1<<24 + 1, 1<<31 - 1, 1 << 31, 1<<31 + 1, 1<<32 - 1}
	checkBoth := func(o api.Op) {
		t.Helper()
		if judged(o) == api.OK {
			checkDecode(t, laid(o), list(o))
		} else {
			checkNoDecode(t, laid(o), api.ErrOpForm)
		}
	}
	for _, n := range numbers {
		for _, kind := range []int{api.OpCreate, api.OpResize, api.OpExtend} {
			checkBoth(ofKind(kind, withTo(n)))
		}
		checkBoth(ofKind(api.OpWrite, withFrom(n)))
		for _, m := range numbers {
			checkBoth(discard("a", n, m))
			checkBoth(fill("a", n, m))
		}
	}
}

func TestP16_3WhichErrorStands(t *testing.T) {
	form := [][]byte{{0}, {12}, laid(remove("A")), laid(create("a", 0)), laid(fill("a", 3, 2)), laid(rename("a", ""))}
	cut := [][]byte{{1}, {6, 9, 'a'}, laid(each()[7])[:300], {11, 0, 0, 0}}
	good := laid(each()...)
	for _, f := range form {
		checkNoDecode(t, bytes.Join([][]byte{good, f}, nil), api.ErrOpForm)
		for _, c := range cut {
			checkNoDecode(t, bytes.Join([][]byte{good, f, c}, nil), api.ErrOpForm)
			checkNoDecode(t, bytes.Join([][]byte{f, good, c}, nil), api.ErrOpForm)
		}
	}
	for _, c := range cut {
		checkNoDecode(t, bytes.Join([][]byte{good, c}, nil), api.ErrOpCut)
	}
	// The first one takes the bytes of the second as its own, and ends too early.
	checkNoDecode(t, []byte{6, 3, 'a', 12}, api.ErrOpCut)
	checkNoDecode(t, []byte{6, 2, 'a', 12, 12}, api.ErrOpForm)
}

// Each byte of an encoded list is changed to each other one.
func TestP16_3AByteIsChanged(t *testing.T) {
	short := slices.DeleteFunc(each(), func(o api.Op) bool { return o.Kind == api.OpWrite })
	data := laid(short...)
	for at := range data {
		for change := 1; change < 256; change++ {
			data[at] ^= byte(change)
			checkAgainstModel(t, data)
			data[at] ^= byte(change)
		}
	}
	with := laid(list(write("ab", 5, noise(512, 2)), remove("a"))...)
	for at := range with {
		with[at] ^= 0x41
		checkAgainstModel(t, with)
		with[at] ^= 0x41
	}
}

func checkAgainstModel(t *testing.T, data []byte) {
	t.Helper()
	want, e := unlaid(data)
	if e == api.OK {
		checkDecode(t, data, want)
		checkEncode(t, want, data)
	} else {
		checkNoDecode(t, data, e)
	}
}

func TestP16_3AnyBytes(t *testing.T) {
	d := &drawing{seed: 12}
	met := map[api.Errno]int{}
	for range 60000 {
		data := noise(d.below(24), uint32(d.below(1<<30)))
		// Small bytes are kinds and lengths, so that some of it is read further than a byte.
		for i := range data {
			switch d.below(4) {
			case 0:
				data[i] = byte(d.below(13))
			case 1:
				data[i] = 'a'
			case 2:
				data[i] &= 1
			}
		}
		_, e := unlaid(data)
		met[e]++
		checkAgainstModel(t, data)
	}
	for _, e := range []api.Errno{api.OK, api.ErrOpForm, api.ErrOpCut} {
		if met[e] < 100 {
			t.Errorf("of %d there are %d among them", e, met[e])
		}
	}
}

// Many operations are read in one go: each of them is taken where the one ahead of it ends.
func TestP16_3IsNotSlow(t *testing.T) {
	many := slices.Repeat(list(create("abc", 7), write("w", 9, noise(512, 4))), 20000)
	data, e := op.Encode(many)
	if e != api.OK || len(data) != len(laid(many[:2]...))*20000 {
		t.Fatalf("Encode = %d bytes, %d", len(data), e)
	}
	ops, e := op.Decode(data)
	if e != api.OK || len(ops) != 40000 {
		t.Fatalf("Decode = %d operations, %d", len(ops), e)
	}
	text, e := op.Print(ops)
	if e != api.OK {
		t.Fatalf("Print = %d", e)
	}
	again, line, e := op.Parse(text)
	if e != api.OK || line != 0 || len(again) != 40000 {
		t.Fatalf("Parse = %d operations, %d, %d", len(again), line, e)
	}
}
