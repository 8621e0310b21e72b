package op_test

import (
	"bytes"
	"slices"
	"strings"
	"testing"

	"cistern/api"
	"cistern/op"
)

func TestP16_7WhatIsWrittenIsReadBack(t *testing.T) {
	d := &drawing{seed: 1}
	for range 3000 {
		ops := d.operations(12)
		data, e := op.Encode(ops)
		if e != api.OK || !bytes.Equal(data, laid(ops...)) {
			t.Fatalf("Encode%s = %x, %d", short(told(ops...)), data, e)
		}
		checkDecode(t, data, ops)
		text, e := op.Print(ops)
		if e != api.OK || text != textFor(ops...) {
			t.Fatalf("Print%s = %q, %d", short(told(ops...)), text, e)
		}
		checkParse(t, text, ops)
	}
}

// What is read, whatever it is, is written back as it was: there is one form alone of each list.
func TestP16_7WhatIsReadIsWrittenBack(t *testing.T) {
	d := &drawing{seed: 2}
	bytesTaken, textsTaken := 0, 0
	for range 20000 {
		ops := d.operations(3)
		data := laid(ops...)
		text := []byte(textFor(ops...))
		for range d.below(3) {
			if len(data) > 0 {
				data[d.below(min(len(data), 40))] = byte(d.below(256))
			}
			if len(text) > 0 {
				text[d.below(min(len(text), 40))] = "0123456789 abcxyz\n"[d.below(18)]
			}
		}
		if ops, e := op.Decode(data); e == api.OK {
			bytesTaken++
			checkEncode(t, ops, data)
		}
		if ops, _, e := op.Parse(string(text)); e == api.OK {
			textsTaken++
			checkPrint(t, ops, string(text))
		}
	}
	if bytesTaken < 1000 || textsTaken < 1000 {
		t.Errorf("%d bytes and %d texts were taken", bytesTaken, textsTaken)
	}
}

// Two lists that are not the same have neither the same bytes nor the same text.
func TestP16_7OneFormEach(t *testing.T) {
	d := &drawing{seed: 4}
	met, said := map[string]string{}, map[string]string{}
	for range 20000 {
		ops := d.operations(2)
		data, _ := op.Encode(ops)
		text, _ := op.Print(ops)
		if old, ok := met[string(data)]; ok && old != told(ops...) {
			t.Fatalf("%x are the bytes of %s and of %s", data, old, told(ops...))
		}
		if old, ok := said[text]; ok && old != told(ops...) {
			t.Fatalf("%q is the text of %s and of %s", text, old, told(ops...))
		}
		met[string(data)], said[text] = told(ops...), told(ops...)
	}
}

func TestP16_7WhatIsCutShort(t *testing.T) {
	d := &drawing{seed: 6}
	for range 60 {
		ops := d.operations(5)
		data := laid(ops...)
		for length := range data {
			end, count := 0, 0
			for end < length {
				end += len(laid(ops[count]))
				count++
			}
			if end == length {
				checkDecode(t, data[:length], ops[:count])
			} else {
				checkNoDecode(t, data[:length], api.ErrOpCut)
			}
		}
	}
}

func TestR2NothingBesideAnError(t *testing.T) {
	for _, bad := range refusals() {
		if data, e := op.Encode(append(each(), bad)); len(data) != 0 || e == api.OK {
			t.Errorf("Encode = %d bytes, %d", len(data), e)
		}
		if text, e := op.Print(append(each(), bad)); text != "" || e == api.OK {
			t.Errorf("Print = %q, %d", short(text), e)
		}
	}
	for _, tail := range []string{"\x00", "\x06", "\x06\x01A"} {
		if ops, e := op.Decode(append(laid(each()...), tail...)); len(ops) != 0 || e == api.OK {
			t.Errorf("Decode = %d operations, %d", len(ops), e)
		}
	}
	for _, tail := range []string{"\n", "delete a", "delete A\n"} {
		if ops, _, e := op.Parse(textFor(each()...) + tail); len(ops) != 0 || e == api.OK {
			t.Errorf("Parse = %d operations, %d", len(ops), e)
		}
	}
}

// spared gives operations with spare room behind the list and behind all data, and a function that tells whether all is as it was.
func spared() ([]api.Op, func() bool) {
	ops := append(make([]api.Op, 0, 40), each()...)
	ops = append(ops, each()...)
	for i := range ops {
		if ops[i].Kind == api.OpWrite {
			ops[i].Data = append(make([]byte, 0, 700), ops[i].Data...)
			copy(ops[i].Data[512:700], bytes.Repeat([]byte{0xee}, 188))
		}
	}
	for i := len(ops); i < 40; i++ {
		ops[:40][i] = remove("spare")
	}
	whole := func() string {
		out := told(ops[:40]...)
		for _, o := range ops {
			out += told(api.Op{Data: o.Data[:cap(o.Data)]})
		}
		return out
	}
	before := whole()
	return ops, func() bool { return whole() == before }
}

func TestR4WhatIsHandedInStays(t *testing.T) {
	ops, isSame := spared()
	for range 2 {
		op.Encode(ops)
		op.Print(ops)
		op.Program(ops)
		for _, o := range ops {
			op.Check(o)
		}
		if !isSame() {
			t.Fatalf("operations that were handed in are changed")
		}
	}
	data := append(make([]byte, 0, 2000), laid(each()...)...)
	size := len(data)
	copy(data[size:2000], bytes.Repeat([]byte{0xee}, 2000))
	before := bytes.Clone(data[:2000])
	op.Decode(data)
	op.Decode(data[:size-1])
	if !bytes.Equal(data[:2000], before) {
		t.Errorf("Decode has changed what it was handed")
	}
}

// The bytes that Encode gives are none of the operations', and the operations that Decode gives have none of its bytes.
func TestR4WhatIsHandedInIsNotKept(t *testing.T) {
	ops := each()
	want := laid(ops...)
	data, _ := op.Encode(ops)
	text, _ := op.Print(ops)
	said := textFor(ops...)
	for i := range ops {
		clear(ops[i].Data)
		ops[i] = remove("other")
	}
	if !bytes.Equal(data, want) || text != said {
		t.Errorf("what was written is changed by what becomes of the operations")
	}
	got, e := op.Decode(data)
	if e != api.OK {
		t.Fatalf("Decode = %d", e)
	}
	for i := range data[:cap(data)] {
		data[:cap(data)][i] = 0xee
	}
	if !same(got, each()) {
		t.Errorf("what was read is changed by what becomes of the bytes")
	}
}

func TestR4WhatIsHandedOutIsNew(t *testing.T) {
	ops := slices.Repeat(each(), 3)
	one, _ := op.Encode(ops)
	two, _ := op.Encode(ops)
	for i := range one[:cap(one)] {
		one[:cap(one)][i] = 0xee
	}
	if !bytes.Equal(two, laid(ops...)) || !same(ops, slices.Repeat(each(), 3)) {
		t.Errorf("Encode hands out the same bytes twice, or the operations' own")
	}
	checkEncode(t, ops, two)
	checkOwn(t, "Decode", ops, func() []api.Op {
		out, _ := op.Decode(two)
		return out
	})
	text := textFor(ops...)
	checkOwn(t, "Parse", ops, func() []api.Op {
		out, _, _ := op.Parse(text)
		return out
	})
	if text != textFor(ops...) || !bytes.Equal(two, laid(ops...)) {
		t.Errorf("what was read is changed by what becomes of the operations")
	}
}

// checkOwn asks twice, spoils each list of the first answer with all its spare room, one behind the other, and holds that no other
// list becomes another.
func checkOwn(t *testing.T, what string, want []api.Op, ask func() []api.Op) {
	t.Helper()
	one, two := ask(), ask()
	if !same(one, want) || !same(two, want) {
		t.Fatalf("%s gives others", what)
	}
	for i := range one {
		spoilt := one[i].Data
		for j := range spoilt[:cap(spoilt)] {
			spoilt[:cap(spoilt)][j] ^= 0xff
		}
		_ = append(spoilt, 1, 2, 3)
		if !same(one[i+1:], want[i+1:]) || !same(one[:i], want[:i]) {
			t.Errorf("%s: the data of operation %d are another's too", what, i)
		}
		for j := range spoilt[:cap(spoilt)] {
			spoilt[:cap(spoilt)][j] ^= 0xff
		}
	}
	for i := range one[:cap(one)] {
		one[:cap(one)][i] = remove("spoilt")
	}
	_ = append(one[:0], remove("spoilt"))
	if !same(two, want) || !same(ask(), want) {
		t.Errorf("%s hands out the same list twice", what)
	}
}

func TestR1NoneAndEmpty(t *testing.T) {
	for _, ops := range [][]api.Op{nil, {}, make([]api.Op, 0, 5)} {
		checkEncode(t, ops, nil)
		checkPrint(t, ops, "")
		checkProgram(t, ops, api.OK)
	}
	for _, data := range [][]byte{nil, {}, make([]byte, 0, 5)} {
		checkDecode(t, data, nil)
		o := remove("a")
		o.Data = data
		checkCheck(t, o, api.OK)
		checkEncode(t, list(o), laid(remove("a")))
		checkPrint(t, list(o), "delete a\n")
		checkProgram(t, list(o), api.OK)
		o = write("a", 0, data)
		checkCheck(t, o, api.ErrActData)
		checkRefused(t, list(o), api.ErrActData)
	}
}

// The calls keep nothing: what was asked between makes no difference.
func TestR5NothingIsKept(t *testing.T) {
	for range 3 {
		checkEncode(t, each(), laid(each()...))
		checkNoEncode(t, list(api.Op{}), api.ErrActKind)
		checkNoDecode(t, []byte{6, 9}, api.ErrOpCut)
		checkDecode(t, laid(each()...), each())
		checkNoParse(t, "delete a", 1)
		checkParse(t, strings.Join(eachLine(), ""), each())
		checkNoPrint(t, list(remove("")), api.ErrActName)
		checkPrint(t, each(), strings.Join(eachLine(), ""))
	}
}
