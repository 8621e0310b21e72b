package op_test

import (
	"bytes"
	"encoding/hex"
	"fmt"
	"slices"
	"strings"
	"testing"

	"cistern/api"
	"cistern/op"
)

// noise gives bytes that look like chance and are the same in each run.
func noise(size int, seed uint32) []byte {
	out := make([]byte, size)
	for i := range out {
		seed = seed*1664525 + 1013904223
		out[i] = byte(seed >> 24)
	}
	return out
}

func create(name string, to int) api.Op { return api.Op{Kind: api.OpCreate, Name: name, To: to} }

func snap(name string, other string) api.Op {
	return api.Op{Kind: api.OpSnap, Name: name, Other: other}
}

func clone(name string, other string) api.Op {
	return api.Op{Kind: api.OpClone, Name: name, Other: other}
}

func resize(name string, to int) api.Op { return api.Op{Kind: api.OpResize, Name: name, To: to} }

func rename(name string, other string) api.Op {
	return api.Op{Kind: api.OpRename, Name: name, Other: other}
}

func remove(name string) api.Op { return api.Op{Kind: api.OpDelete, Name: name} }

func restore(name string, other string) api.Op {
	return api.Op{Kind: api.OpRestore, Name: name, Other: other}
}

func write(name string, from int, data []byte) api.Op {
	return api.Op{Kind: api.OpWrite, Name: name, From: from, Data: data}
}

func discard(name string, from int, to int) api.Op {
	return api.Op{Kind: api.OpDiscard, Name: name, From: from, To: to}
}

func fill(name string, from int, to int) api.Op {
	return api.Op{Kind: api.OpFill, Name: name, From: from, To: to}
}

func extend(to int) api.Op { return api.Op{Kind: api.OpExtend, To: to} }

func list(ops ...api.Op) []api.Op { return ops }

// each gives an operation of each kind, in the order of the kinds.
func each() []api.Op {
	return list(
		create("a", 10),
		snap("s", "a"),
		clone("~c.1", "s"),
		resize("vol-2", 262144),
		rename("a", "b_@~"),
		remove("monday"),
		restore("a", "s"),
		write("a", 262143, noise(512, 3)),
		discard("a", 0, 262144),
		fill("a", 1000, 1032),
		extend(256),
	)
}

// told tells operations, with all of their fields.
func told(ops ...api.Op) string {
	var out []string
	for _, o := range ops {
		out = append(out, fmt.Sprintf("(%d %q %q %d %d %x)", o.Kind, o.Name, o.Other, o.From, o.To, o.Data))
	}
	return "[" + strings.Join(out, " ") + "]"
}

// short cuts what a test tells.
func short(text string) string {
	if len(text) > 300 {
		return text[:200] + fmt.Sprintf(" ... (%d in all)", len(text))
	}
	return text
}

func same(one []api.Op, two []api.Op) bool { return told(one...) == told(two...) }

func checkCheck(t *testing.T, o api.Op, want api.Errno) {
	t.Helper()
	if e := op.Check(o); e != want {
		t.Errorf("Check%s = %d; want %d", short(told(o)), e, want)
	}
}

func checkEncode(t *testing.T, ops []api.Op, want []byte) {
	t.Helper()
	if data, e := op.Encode(ops); !bytes.Equal(data, want) || e != api.OK {
		t.Errorf("Encode%s = %s, %d; want %s", short(told(ops...)), short(hex.EncodeToString(data)), e, short(hex.EncodeToString(want)))
	}
}

func checkNoEncode(t *testing.T, ops []api.Op, want api.Errno) {
	t.Helper()
	if data, e := op.Encode(ops); len(data) != 0 || e != want {
		t.Errorf("Encode%s = %d bytes, %d; want none, %d", short(told(ops...)), len(data), e, want)
	}
}

func checkDecode(t *testing.T, data []byte, want []api.Op) {
	t.Helper()
	if ops, e := op.Decode(data); !same(ops, want) || e != api.OK {
		t.Errorf("Decode(%s) = %s, %d; want %s", short(hex.EncodeToString(data)), short(told(ops...)), e, short(told(want...)))
	}
}

func checkNoDecode(t *testing.T, data []byte, want api.Errno) {
	t.Helper()
	if ops, e := op.Decode(data); len(ops) != 0 || e != want {
		t.Errorf("Decode(%s) = %s, %d; want nothing, %d", short(hex.EncodeToString(data)), short(told(ops...)), e, want)
	}
}

func checkPrint(t *testing.T, ops []api.Op, want string) {
	t.Helper()
	if text, e := op.Print(ops); text != want || e != api.OK {
		t.Errorf("Print%s = %q, %d; want %q", short(told(ops...)), short(text), e, short(want))
	}
}

func checkNoPrint(t *testing.T, ops []api.Op, want api.Errno) {
	t.Helper()
	if text, e := op.Print(ops); text != "" || e != want {
		t.Errorf("Print%s = %q, %d; want nothing, %d", short(told(ops...)), short(text), e, want)
	}
}

func checkParse(t *testing.T, text string, want []api.Op) {
	t.Helper()
	if ops, line, e := op.Parse(text); !same(ops, want) || line != 0 || e != api.OK {
		t.Errorf("Parse(%q) = %s, %d, %d; want %s, 0", short(text), short(told(ops...)), line, e, short(told(want...)))
	}
}

// checkNoParse holds that a text is refused, and at which line.
func checkNoParse(t *testing.T, text string, want int) {
	t.Helper()
	if ops, line, e := op.Parse(text); len(ops) != 0 || line != want || e != api.ErrOpText {
		t.Errorf("Parse(%q) = %s, %d, %d; want nothing, %d, ErrOpText", short(text), short(told(ops...)), line, e, want)
	}
}

func checkProgram(t *testing.T, ops []api.Op, want api.Errno) {
	t.Helper()
	if e := op.Program(ops); e != want {
		t.Errorf("Program%s = %d; want %d", short(told(ops...)), e, want)
	}
}

// checkRefused holds that all that write a list are refused.
func checkRefused(t *testing.T, ops []api.Op, want api.Errno) {
	t.Helper()
	checkNoEncode(t, ops, want)
	checkNoPrint(t, ops, want)
}

func TestP16ExamplesInTheirOrder(t *testing.T) {
	checkCheck(t, create("a", 10), api.OK)
	checkCheck(t, create("a", 0), api.ErrActSize)
	checkCheck(t, api.Op{Kind: api.OpCreate, Name: "a", To: 10, From: 1}, api.ErrActForm)
	checkCheck(t, create("A", 0), api.ErrActName)
	checkCheck(t, api.Op{Kind: 12}, api.ErrActKind)

	checkCheck(t, fill("a", 0, 32), api.OK)
	checkCheck(t, fill("a", 0, 33), api.ErrActRange)
	checkCheck(t, fill("a", 3, 2), api.ErrActRange)
	checkCheck(t, discard("a", 0, 262144), api.OK)
	checkCheck(t, write("a", 262144, noise(512, 1)), api.ErrActRange)

	checkEncode(t, list(create("a", 10)), []byte{0x01, 0x01, 0x61, 0x0a, 0x00, 0x00, 0x00})
	checkEncode(t, list(rename("a", "b")), []byte{0x05, 0x01, 0x61, 0x01, 0x62})
	checkEncode(t, list(extend(256)), []byte{0x0b, 0x00, 0x01, 0x00, 0x00})
	checkEncode(t, nil, nil)

	checkNoDecode(t, []byte{0x01, 0x01, 0x61, 0x0a, 0x00, 0x00}, api.ErrOpCut)
	checkNoDecode(t, []byte{0x01, 0x01, 0x41, 0x0a, 0x00, 0x00, 0x00}, api.ErrOpForm)
	checkNoDecode(t, []byte{0x0c}, api.ErrOpForm)
	checkNoDecode(t, []byte{0x05, 0xff, 0x61}, api.ErrOpCut)

	checkPrint(t, list(create("a", 10), snap("s", "a"), discard("a", 0, 4)), "create a 10\nsnap s of a\ndiscard a 0 4\n")

	checkNoParse(t, "create a 10\ncreate a 010\n", 2)
	checkNoParse(t, "delete a", 1)
	checkNoParse(t, "\n", 1)
	checkParse(t, "", nil)

	checkProgram(t, slices.Repeat(list(remove("a")), 121), api.ErrOpMany)
	checkProgram(t, list(write("a", 0, make([]byte, 3))), api.ErrOpProgram)
	checkProgram(t, list(extend(0)), api.ErrOpProgram)
	checkProgram(t, nil, api.OK)
}
