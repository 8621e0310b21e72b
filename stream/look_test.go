package stream_test

import (
	"bytes"
	"encoding/binary"
	"fmt"
	"regexp"
	"slices"
	"strings"
	"testing"

	"cistern/api"
	"cistern/stream"
)

// judged is what the document says of bytes: what they tell of themselves, or the error. It goes its own way: it takes the parts off
// by the document's table, and lays down again what it has found.
func judged(all []byte) (api.StreamHead, api.Errno) {
	if len(all) < 4 || string(all[:4]) != "CST1" {
		return api.StreamHead{}, api.ErrStreamForm
	}
	if len(all) < 8 || binary.LittleEndian.Uint32(all[len(all)-4:]) != sumOf(all[:len(all)-4]) {
		return api.StreamHead{}, api.ErrStreamSum
	}
	head, pieces, sum, ok := parts(all[4 : len(all)-4])
	if !ok || !mayBe(head, pieces, sum) || !bytes.Equal(laid(head.Name, head.Size, head.Since, sum, pieces...), all) {
		return api.StreamHead{}, api.ErrStreamForm
	}
	return head, api.OK
}

// parts takes off what bytes are long enough for.
func parts(rest []byte) (head api.StreamHead, pieces []piece, sum uint32, ok bool) {
	take := func(n int) []byte {
		if n > len(rest) {
			panic("short")
		}
		part := rest[:n]
		rest = rest[n:]
		return part
	}
	number := func() int { return int(binary.LittleEndian.Uint32(take(4))) }
	defer func() {
		if recover() != nil {
			ok = false
		}
	}()
	head.Name = string(take(int(take(1)[0])))
	head.Size = number()
	head.Since = string(take(int(take(1)[0])))
	sum = uint32(number())
	for head.Ranges = number(); len(pieces) < head.Ranges; {
		p := piece{kind: int(take(1)[0]), from: number(), to: number()}
		if p.kind == 1 {
			p.blocks = take(512 * max(0, p.to-p.from))
		}
		pieces = append(pieces, p)
		head.Blocks += len(p.blocks) / 512
	}
	return head, pieces, sum, len(rest) == 0
}

var nameForm = regexp.MustCompile(`^[a-z~][a-z0-9._@~-]{0,30}$`)

func mayBe(head api.StreamHead, pieces []piece, sum uint32) bool {
	if !nameForm.MatchString(head.Name) || head.Size < 1 || head.Size > 262144 {
		return false
	}
	if head.Since == "" && sum != 0 || head.Since != "" && !nameForm.MatchString(head.Since) {
		return false
	}
	for i, p := range pieces {
		switch {
		case p.kind != 1 && (p.kind != 2 || head.Since == ""), p.from >= p.to, p.to > head.Size:
			return false
		case i > 0 && (p.from < pieces[i-1].to || p.from == pieces[i-1].to && p.kind == pieces[i-1].kind):
			return false
		}
	}
	return true
}

// checkJudged holds that Look says of bytes what the document does.
func checkJudged(t *testing.T, data []byte) {
	t.Helper()
	want, e := judged(data)
	if h, f := stream.Look(data); h != want || f != e {
		t.Errorf("Look(%s) of %d bytes = %v, %d; want %v, %d", short(data), len(data), h, f, want, e)
	}
}

// streams gives some that may be, of all sorts.
func streams() map[string][]byte {
	return map[string][]byte{
		"no run":            laid("a", 9, "", 0),
		"one run":           laid("a", 9, "", 0, has(2, full(7), full(0))),
		"two runs":          laid("abc", 9, "", 0, has(0, full(1)), has(8, full(2))),
		"all of the volume": laid("a", 2, "", 0, has(0, full(1), full(2))),
		"the greatest size": laid("a", 262144, "", 0, has(262143, full(2))),
		"no change":         laid("a", 9, "b", 5),
		"an empty base":     laid("a", 9, "b", 0, has(3, full(1))),
		"three runs":        laid("a", 9, "s", 1<<32-1, lost(2, 3), has(3, full(7)), has(5, full(7))),
		"runs that touch":   laid("a", 9, "a", 77, lost(0, 2), has(2, full(1)), lost(3, 9)),
		"long names":        laid("~"+strings.Repeat("z", 30), 70, "b"+strings.Repeat("@", 30), 9, lost(69, 70)),
	}
}

func TestP15_2WhatAStreamSaysOfItself(t *testing.T) {
	want := map[string]api.StreamHead{
		"no run":            {Name: "a", Size: 9},
		"one run":           {Name: "a", Size: 9, Ranges: 1, Blocks: 2},
		"two runs":          {Name: "abc", Size: 9, Ranges: 2, Blocks: 2},
		"all of the volume": {Name: "a", Size: 2, Ranges: 1, Blocks: 2},
		"the greatest size": {Name: "a", Size: 262144, Ranges: 1, Blocks: 1},
		"no change":         {Name: "a", Size: 9, Since: "b"},
		"an empty base":     {Name: "a", Size: 9, Since: "b", Ranges: 1, Blocks: 1},
		"three runs":        {Name: "a", Size: 9, Since: "s", Ranges: 3, Blocks: 2},
		"runs that touch":   {Name: "a", Size: 9, Since: "a", Ranges: 3, Blocks: 1},
		"long names":        {Name: "~" + strings.Repeat("z", 30), Size: 70, Since: "b" + strings.Repeat("@", 30), Ranges: 1},
	}
	for what, data := range streams() {
		if h, e := stream.Look(data); h != want[what] || e != api.OK {
			t.Errorf("Look of %s = %v, %d; want %v", what, h, e, want[what])
		}
		checkJudged(t, data)
	}
}

// Nothing, and one to eight bytes.
func TestP15_2AFewBytes(t *testing.T) {
	checkNoLook(t, nil, api.ErrStreamForm)
	checkNoLook(t, []byte{}, api.ErrStreamForm)
	for n := 1; n <= 9; n++ {
		checkNoLook(t, make([]byte, n), api.ErrStreamForm)
		checkNoLook(t, bytes.Repeat([]byte("C"), n), api.ErrStreamForm)
	}
	for n := range 4 {
		checkNoLook(t, []byte("CST1")[:n], api.ErrStreamForm)
		other := []byte("CST1 and more")
		other[n]++
		checkNoLook(t, other, api.ErrStreamForm)
		checkNoLook(t, other[:4], api.ErrStreamForm)
		checkNoLook(t, sealed(other[:4]), api.ErrStreamForm)
	}
	for n := 4; n < 8; n++ {
		checkNoLook(t, []byte("CST1\x00\x00\x00\x00")[:n], api.ErrStreamSum)
		// The sum of all ahead cannot be among the first four.
		checkNoLook(t, sealed([]byte("CST1"))[:n], api.ErrStreamSum)
	}
	checkNoLook(t, []byte("CST1\x00\x00\x00\x00"), api.ErrStreamSum)
	checkNoLook(t, sealed([]byte("CST1")), api.ErrStreamForm)
	checkNoLook(t, sealed([]byte("CST1\x01")), api.ErrStreamForm)
	checkNoLook(t, sealed([]byte("CST1\xff")), api.ErrStreamForm)
}

// No beginning of a stream is taken, as it is or with a sum of its own.
func TestP15_6NoBeginningIsTaken(t *testing.T) {
	b := made(t, 60)
	for what, data := range streams() {
		for n := range data {
			want := api.ErrStreamSum
			if n < 4 {
				want = api.ErrStreamForm
			}
			checkNoLook(t, data[:n], want)
			if n%7 == 0 {
				b.checkRefused("x", data[:n], want)
			}
			if n < len(data)-4 {
				checkNoLook(t, sealed(data[:n]), api.ErrStreamForm)
			}
		}
		if t.Failed() {
			t.Fatalf("of %s", what)
		}
	}
}

// A beginning whose last four bytes happen to be the sum of those ahead is none either: its form says that more is to come.
func TestP15_6ABeginningThatHasItsSum(t *testing.T) {
	for _, bytesAhead := range []int{0, 1, 100, 507} {
		start := laid("a", 9, "", 0, has(2, full(7)))
		start = start[:len(start)-4-512]
		start = append(start, noise(bytesAhead, 5)...)
		block := append(noise(bytesAhead, 5), u32(int(sumOf(start)))...)
		block = append(block, make([]byte, 512-len(block))...)
		whole := laid("a", 9, "", 0, has(2, block))
		beginning := whole[:len(start)+4]
		if sumOf(beginning[:len(beginning)-4]) != binary.LittleEndian.Uint32(beginning[len(beginning)-4:]) {
			t.Fatalf("the beginning has not its sum")
		}
		checkLook(t, whole, api.StreamHead{Name: "a", Size: 9, Ranges: 1, Blocks: 1})
		checkNoLook(t, beginning, api.ErrStreamForm)
	}
}

// Each byte of a stream changed, to each other value, the sum as it was.
func TestP15_2AByteIsChanged(t *testing.T) {
	data := laid("ab", 9, "s", 9, lost(2, 3), has(3, full(7)))
	for at := range data {
		want := api.ErrStreamSum
		if at < 4 {
			want = api.ErrStreamForm
		}
		for by := 1; by < 256; by++ {
			other := bytes.Clone(data)
			other[at] ^= byte(by)
			checkNoLook(t, other, want)
		}
		if t.Failed() {
			t.Fatalf("the byte at %d", at)
		}
	}
}

// The same with the sum set right: then the form alone says whether it is taken.
func TestP15_2AByteIsChangedAndTheSumSetRight(t *testing.T) {
	taken, refused := 0, 0
	for what, data := range streams() {
		for at := range len(data) - 4 {
			for by := 1; by < 256; by++ {
				if at > 100 && by%50 != 1 {
					continue
				}
				other := bytes.Clone(data[:len(data)-4])
				other[at] ^= byte(by)
				other = sealed(other)
				checkJudged(t, other)
				if _, e := stream.Look(other); e == api.OK {
					taken++
				} else {
					refused++
				}
			}
			if t.Failed() {
				t.Fatalf("of %s the byte at %d", what, at)
			}
		}
	}
	if taken < 1000 || refused < 1000 {
		t.Errorf("%d are taken, %d refused", taken, refused)
	}
}

func TestP15_2Names(t *testing.T) {
	for _, name := range []string{"a", "z", "~", "a0.-_@~", "~~", strings.Repeat("a", 31)} {
		checkLook(t, laid(name, 1, "", 0), api.StreamHead{Name: name, Size: 1})
		checkLook(t, laid("a", 1, name, 0), api.StreamHead{Name: "a", Size: 1, Since: name})
	}
	for _, name := range []string{"A", "0", "0a", "-", ".", "_", "@", "a ", " a", "aB", "a\x00", "a\n", "\n", "ä", "\xff", strings.Repeat("a", 32), strings.Repeat("a", 255)} {
		checkNoLook(t, laid(name, 1, "", 0), api.ErrStreamForm)
		checkNoLook(t, laid("a", 1, name, 0), api.ErrStreamForm)
	}
	checkNoLook(t, laid("", 1, "", 0), api.ErrStreamForm)
	for b := range 256 {
		checkJudged(t, laid(string([]byte{byte(b)}), 1, "", 0))
		checkJudged(t, laid(string([]byte{'a', byte(b)}), 1, "", 0))
		checkJudged(t, laid("a", 1, string([]byte{byte(b)}), 0))
		checkJudged(t, laid("a", 1, string([]byte{'a', byte(b), 'a'}), 0))
	}
}

func TestP15_2Sizes(t *testing.T) {
	for _, size := range []int{1, 2, 255, 256, 65536, 262143, 262144} {
		checkLook(t, laid("a", size, "", 0, has(size-1, full(1))), api.StreamHead{Name: "a", Size: size, Ranges: 1, Blocks: 1})
		checkNoLook(t, laid("a", size, "", 0, has(size, full(1))), api.ErrStreamForm)
		checkNoLook(t, laid("a", size, "", 0, has(size-1, full(1), full(1))), api.ErrStreamForm)
		checkNoLook(t, laid("a", size, "b", 0, lost(size, size+1)), api.ErrStreamForm)
		checkNoLook(t, laid("a", size, "b", 0, lost(0, size+1)), api.ErrStreamForm)
	}
	for _, size := range []int{0, 262145, 1 << 24, 1<<31 - 1, 1 << 31, 1<<32 - 1} {
		checkNoLook(t, laid("a", size, "", 0), api.ErrStreamForm)
		checkNoLook(t, laid("a", size, "b", 1), api.ErrStreamForm)
		checkNoLook(t, laid("a", size, "", 0, has(0, full(1))), api.ErrStreamForm)
	}
}

// What is of a base alone, in a stream that is whole.
func TestP15_2WholeStreams(t *testing.T) {
	for _, sum := range []uint32{1, 256, 1 << 31, 1<<32 - 1} {
		checkNoLook(t, laid("a", 9, "", sum), api.ErrStreamForm)
		checkNoLook(t, laid("a", 9, "", sum, has(0, full(1))), api.ErrStreamForm)
		checkLook(t, laid("a", 9, "b", sum), api.StreamHead{Name: "a", Size: 9, Since: "b"})
	}
	checkNoLook(t, laid("a", 9, "", 0, lost(0, 1)), api.ErrStreamForm)
	checkNoLook(t, laid("a", 9, "", 0, has(0, full(1)), lost(1, 2)), api.ErrStreamForm)
	checkNoLook(t, laid("a", 9, "", 0, lost(0, 1), has(1, full(1))), api.ErrStreamForm)
}

func TestP15_2Runs(t *testing.T) {
	third := func(kind int, from int, to int) piece { return piece{kind: kind, from: from, to: to} }
	for what, pieces := range map[string][]piece{
		"empty":                        {{kind: 1, from: 3, to: 3}},
		"empty, gone":                  {lost(3, 3)},
		"empty at 0":                   {lost(0, 0)},
		"empty behind another":         {lost(0, 3), {kind: 1, from: 3, to: 3}},
		"its end ahead of it":          {lost(4, 3)},
		"its end far ahead of it":      {{kind: 1, from: 8, to: 0}},
		"out of turn":                  {has(5, full(1)), has(3, full(1))},
		"out of turn, of two kinds":    {lost(5, 6), has(3, full(1))},
		"within the one ahead":         {lost(2, 6), has(3, full(1))},
		"the same twice":               {has(3, full(1)), has(3, full(1))},
		"the same of two kinds":        {has(3, full(1)), lost(3, 4)},
		"begins in the one ahead":      {lost(2, 6), has(5, full(1), full(2))},
		"past the size":                {has(8, full(1), full(2))},
		"past the size, gone":          {lost(8, 10)},
		"begins at the size":           {lost(9, 10)},
		"far past the size":            {lost(1<<32-2, 1<<32-1)},
		"ends far past the size":       {lost(0, 1<<32-1)},
		"data far past the size":       {{kind: 1, from: 0, to: 1<<32 - 1}},
		"of kind 0":                    {third(0, 3, 4)},
		"of a third kind":              {third(3, 3, 4)},
		"of the last kind":             {third(255, 3, 4)},
		"of a third kind behind":       {has(0, full(1)), third(3, 3, 4)},
		"touching, both data":          {has(3, full(1)), has(4, full(1))},
		"touching, both gone":          {lost(3, 4), lost(4, 5)},
		"touching, behind two kinds":   {has(2, full(1)), lost(3, 4), lost(4, 5)},
		"more data than its blocks":    {{kind: 1, from: 3, to: 5, blocks: full(1)}},
		"less data than a block":       {{kind: 1, from: 3, to: 4, blocks: full(1)[:511]}},
		"more data than a block":       {{kind: 1, from: 3, to: 4, blocks: append(full(1), 1)}},
		"gone, with a block":           {{kind: 2, from: 3, to: 4, blocks: full(1)}},
		"data that ends with the sum":  {{kind: 1, from: 3, to: 4, blocks: full(1)[:508]}},
		"no data, and the volume full": {{kind: 1, from: 0, to: 9}},
	} {
		data := laid("a", 9, "b", 5, pieces...)
		if h, e := stream.Look(data); h != (api.StreamHead{}) || e != api.ErrStreamForm {
			t.Errorf("Look of a run that is %s = %v, %d", what, h, e)
		}
		checkJudged(t, data)
		whole := slices.DeleteFunc(slices.Clone(pieces), func(p piece) bool { return p.kind == 2 })
		checkJudged(t, laid("a", 9, "", 0, whole...))
	}
	for what, pieces := range map[string][]piece{
		"touching, of two kinds":    {has(3, full(1)), lost(4, 5), has(5, full(1)), lost(6, 9)},
		"touching, the other way":   {lost(0, 4), has(4, full(1)), lost(5, 6)},
		"one block between, data":   {has(0, full(1)), has(2, full(1)), has(4, full(1))},
		"one block between, gone":   {lost(0, 1), lost(2, 3), lost(4, 5)},
		"all gone":                  {lost(0, 9)},
		"from the first to the end": {has(0, full(1)), lost(1, 8), has(8, full(1))},
	} {
		data := laid("a", 9, "b", 5, pieces...)
		if h, e := stream.Look(data); h.Ranges != len(pieces) || e != api.OK {
			t.Errorf("Look of runs that are %s = %v, %d", what, h, e)
		}
		checkJudged(t, data)
	}
}

// The number of runs is another than there are; a great one is no room that is asked for.
func TestP15_2TooFewAndTooManyRuns(t *testing.T) {
	data := laid("a", 9, "b", 5, lost(2, 3), has(3, full(7)), lost(7, 8))
	const countAt = 4 + 2 + 4 + 2 + 4
	for _, count := range []int{0, 1, 2, 4, 5, 255, 256, 1 << 16, 1 << 24, 1<<31 - 1, 1 << 31, 1<<32 - 1} {
		other := bytes.Clone(data[:len(data)-4])
		copy(other[countAt:], u32(count))
		checkNoLook(t, sealed(other), api.ErrStreamForm)
		empty := laid("a", 9, "b", 5)
		copy(empty[countAt:], u32(count))
		if count > 0 {
			checkNoLook(t, sealed(empty[:len(empty)-4]), api.ErrStreamForm)
		}
	}
}

func TestP15_2BytesBehindTheLastSum(t *testing.T) {
	for what, data := range streams() {
		for _, more := range [][]byte{{0}, {1}, u32(0), u32(int(sumOf(data))), data, make([]byte, 512)} {
			checkJudged(t, append(bytes.Clone(data), more...))
			checkNoLook(t, append(bytes.Clone(data), more...), map[bool]api.Errno{true: api.ErrStreamForm, false: api.ErrStreamSum}[bytes.Equal(more, u32(int(sumOf(data))))])
			checkNoLook(t, sealed(append(bytes.Clone(data), more...)), api.ErrStreamForm)
			checkNoLook(t, sealed(append(bytes.Clone(data[:len(data)-4]), more...)), api.ErrStreamForm)
		}
		if t.Failed() {
			t.Fatalf("of %s", what)
		}
	}
}

// Where the sum is another and the form is none either, the sum is told; where the first four are others, the form.
func TestP15_2TheOrderOfTheErrors(t *testing.T) {
	bad := laid("A", 0, "B", 5, lost(5, 3))
	checkNoLook(t, bad, api.ErrStreamForm)
	bad[len(bad)-1]++
	checkNoLook(t, bad, api.ErrStreamSum)
	bad[0]++
	checkNoLook(t, bad, api.ErrStreamForm)
}

// Bytes that look like chance, and streams of which pieces are taken out, put in or changed.
func TestP15_2AnyBytes(t *testing.T) {
	all := streams()
	names := []string{}
	for what := range all {
		names = append(names, what)
	}
	slices.Sort(names)
	for seed := range 20000 {
		chance := noise(16, uint32(seed))
		data := bytes.Clone(all[names[int(chance[0])%len(names)]])
		data = data[:len(data)-4]
		at := int(chance[1]) % min(len(data), 60)
		switch chance[2] % 4 {
		case 0:
			data = slices.Delete(data, at, min(len(data), at+1+int(chance[3])%12))
		case 1:
			data = slices.Insert(data, at, chance[4:5+chance[3]%8]...)
		case 2:
			copy(data[at:], chance[4:5+chance[3]%8])
		case 3:
			copy(data[at:], u32(int(chance[4])%11))
		}
		checkJudged(t, sealed(data))
		checkJudged(t, sealed(append([]byte("CST1"), noise(int(chance[5]), uint32(seed))...)))
	}
}

// What is handed in stays as it is, with its spare room; what was told stays, when it is written over.
func TestR4Look(t *testing.T) {
	data := streams()["three runs"]
	room := append(bytes.Clone(data), full(0xaa)...)
	was := bytes.Clone(room)
	h, e := stream.Look(room[:len(data)])
	if e != api.OK || !bytes.Equal(room, was) {
		t.Errorf("Look = %v, %d; what was handed in is as it was: %v", h, e, bytes.Equal(room, was))
	}
	told := fmt.Sprint(h)
	for i := range room {
		room[i] = 'x'
	}
	if fmt.Sprint(h) != told || h.Name != "a" || h.Since != "s" {
		t.Errorf("what was told becomes %v", h)
	}
}
