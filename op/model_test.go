package op_test

import (
	"encoding/binary"
	"encoding/hex"
	"fmt"
	"regexp"
	"strconv"
	"strings"
	"testing"

	"cistern/api"
)

// What the document says, gone its own way: the tests hold the package against it.

// uses tells of each kind which fields it uses, by their first letters, in the order of its bytes.
var uses = map[int]string{1: "NT", 2: "NO", 3: "NO", 4: "NT", 5: "NO", 6: "N", 7: "NO", 8: "NFD", 9: "NFT", 10: "NFT", 11: "T"}

var nameForm = regexp.MustCompile(`^[a-z~][-a-z0-9._@~]{0,30}$`)

func isName(text string) bool { return nameForm.MatchString(text) }

// judged is what P16.1 says of an operation.
func judged(o api.Op) api.Errno {
	u, ok := uses[o.Kind]
	if !ok {
		return api.ErrActKind
	}
	isUsed := func(letter string) bool { return strings.Contains(u, letter) }
	isSet := map[string]bool{"N": o.Name != "", "O": o.Other != "", "F": o.From != 0, "T": o.To != 0, "D": len(o.Data) != 0}
	for letter, set := range isSet {
		if set && !isUsed(letter) {
			return api.ErrActForm
		}
	}
	if isUsed("N") && !isName(o.Name) {
		return api.ErrActName
	}
	if isUsed("O") && !isName(o.Other) {
		return api.ErrActName
	}
	if isUsed("D") && len(o.Data) != 512 {
		return api.ErrActData
	}
	switch o.Kind {
	case 1, 4, 11:
		if o.To < 1 || o.To > 262144 {
			return api.ErrActSize
		}
	case 8:
		if o.From < 0 || o.From > 262143 {
			return api.ErrActRange
		}
	case 9:
		if o.From < 0 || o.To > 262144 || o.From > o.To {
			return api.ErrActRange
		}
	case 10:
		if o.From < 0 || o.To > 262144 || o.From > o.To || o.To-o.From > 32 {
			return api.ErrActRange
		}
	}
	return api.OK
}

// laid gives the bytes of operations, also of such as may not be, as far as there are bytes for them.
func laid(ops ...api.Op) []byte {
	var out []byte
	for _, o := range ops {
		out = append(out, byte(o.Kind))
		for _, letter := range uses[o.Kind] {
			switch letter {
			case 'N':
				out = append(append(out, byte(len(o.Name))), o.Name...)
			case 'O':
				out = append(append(out, byte(len(o.Other))), o.Other...)
			case 'F':
				out = binary.LittleEndian.AppendUint32(out, uint32(o.From))
			case 'T':
				out = binary.LittleEndian.AppendUint32(out, uint32(o.To))
			case 'D':
				out = append(out, o.Data...)
			}
		}
	}
	return out
}

// lineFor gives the line of an operation, also of one that may not be.
func lineFor(o api.Op) string {
	switch o.Kind {
	case 1:
		return fmt.Sprintf("create %s %d\n", o.Name, o.To)
	case 2:
		return fmt.Sprintf("snap %s of %s\n", o.Name, o.Other)
	case 3:
		return fmt.Sprintf("clone %s of %s\n", o.Name, o.Other)
	case 4:
		return fmt.Sprintf("resize %s %d\n", o.Name, o.To)
	case 5:
		return fmt.Sprintf("rename %s to %s\n", o.Name, o.Other)
	case 6:
		return fmt.Sprintf("delete %s\n", o.Name)
	case 7:
		return fmt.Sprintf("restore %s from %s\n", o.Name, o.Other)
	case 8:
		return fmt.Sprintf("write %s %d %x\n", o.Name, o.From, o.Data)
	case 9:
		return fmt.Sprintf("discard %s %d %d\n", o.Name, o.From, o.To)
	case 10:
		return fmt.Sprintf("fill %s %d %d\n", o.Name, o.From, o.To)
	case 11:
		return fmt.Sprintf("extend %d\n", o.To)
	}
	return "?\n"
}

func textFor(ops ...api.Op) string {
	var out strings.Builder
	for _, o := range ops {
		out.WriteString(lineFor(o))
	}
	return out.String()
}

// unlaid is what P16.3 says of bytes: the operations, or the error.
func unlaid(data []byte) ([]api.Op, api.Errno) {
	var ops []api.Op
	for len(data) > 0 {
		o, rest, e := firstOf(data)
		if e != api.OK {
			return nil, e
		}
		ops, data = append(ops, o), rest
	}
	return ops, api.OK
}

// firstOf takes the first operation off, and gives what stands behind it.
func firstOf(data []byte) (o api.Op, rest []byte, e api.Errno) {
	o.Kind, rest = int(data[0]), data[1:]
	if o.Kind < 1 || o.Kind > 11 {
		return api.Op{}, nil, api.ErrOpForm
	}
	defer func() {
		if recover() != nil {
			o, rest, e = api.Op{}, nil, api.ErrOpCut
		}
	}()
	// A part that is not there makes the run-time panic: the bounds of rest are its length's.
	take := func(n int) []byte {
		part := rest[:n:len(rest)]
		rest = rest[n:len(rest):len(rest)]
		return part
	}
	for _, letter := range uses[o.Kind] {
		switch letter {
		case 'N':
			o.Name = string(take(int(take(1)[0])))
		case 'O':
			o.Other = string(take(int(take(1)[0])))
		case 'F':
			o.From = int(binary.LittleEndian.Uint32(take(4)))
		case 'T':
			o.To = int(binary.LittleEndian.Uint32(take(4)))
		case 'D':
			o.Data = take(512)
		}
	}
	if judged(o) != api.OK {
		return api.Op{}, nil, api.ErrOpForm
	}
	return o, rest, api.OK
}

// lineForms gives of each kind the lines that its operations have, but for what Check asks.
var lineForms = map[int]*regexp.Regexp{
	1:  regexp.MustCompile(`\Acreate (?P<N>[^ \n]*) (?P<T>0|[1-9][0-9]{0,9})\n\z`),
	2:  regexp.MustCompile(`\Asnap (?P<N>[^ \n]*) of (?P<O>[^ \n]*)\n\z`),
	3:  regexp.MustCompile(`\Aclone (?P<N>[^ \n]*) of (?P<O>[^ \n]*)\n\z`),
	4:  regexp.MustCompile(`\Aresize (?P<N>[^ \n]*) (?P<T>0|[1-9][0-9]{0,9})\n\z`),
	5:  regexp.MustCompile(`\Arename (?P<N>[^ \n]*) to (?P<O>[^ \n]*)\n\z`),
	6:  regexp.MustCompile(`\Adelete (?P<N>[^ \n]*)\n\z`),
	7:  regexp.MustCompile(`\Arestore (?P<N>[^ \n]*) from (?P<O>[^ \n]*)\n\z`),
	8:  regexp.MustCompile(`\Awrite (?P<N>[^ \n]*) (?P<F>0|[1-9][0-9]{0,9}) (?P<D>[0-9a-f]*)\n\z`),
	9:  regexp.MustCompile(`\Adiscard (?P<N>[^ \n]*) (?P<F>0|[1-9][0-9]{0,9}) (?P<T>0|[1-9][0-9]{0,9})\n\z`),
	10: regexp.MustCompile(`\Afill (?P<N>[^ \n]*) (?P<F>0|[1-9][0-9]{0,9}) (?P<T>0|[1-9][0-9]{0,9})\n\z`),
	11: regexp.MustCompile(`\Aextend (?P<T>0|[1-9][0-9]{0,9})\n\z`),
}

// untold is what P16.5 says of a text: the operations, or the number of the first line that is none's.
func untold(text string) ([]api.Op, int) {
	var ops []api.Op
	for i, line := range strings.SplitAfter(text, "\n") {
		if line == "" {
			break // behind the last LF there is nothing
		}
		o, ok := onLine(line)
		if !ok {
			return nil, i + 1
		}
		ops = append(ops, o)
	}
	return ops, 0
}

func onLine(line string) (api.Op, bool) {
	for kind, form := range lineForms {
		if !form.MatchString(line) {
			continue
		}
		part := func(letter string) string {
			i := form.SubexpIndex(letter)
			if i < 0 {
				return ""
			}
			return form.FindStringSubmatch(line)[i]
		}
		number := func(letter string) int {
			n, _ := strconv.Atoi(part(letter))
			return n
		}
		data, err := hex.DecodeString(part("D"))
		o := api.Op{Kind: kind, Name: part("N"), Other: part("O"), From: number("F"), To: number("T"), Data: data}
		return o, err == nil && judged(o) == api.OK
	}
	return api.Op{}, false
}

// drawing draws from noise.
type drawing struct{ seed uint32 }

// below draws a number from 0 up to and without most.
func (d *drawing) below(most int) int {
	d.seed = d.seed*1664525 + 1013904223
	high := uint64(d.seed >> 8)
	d.seed = d.seed*1664525 + 1013904223
	return int((high<<24 | uint64(d.seed>>8)) % uint64(most))
}

func (d *drawing) name() string {
	const first, others = "abcxyz~", "abcxyz~0189.-_@"
	out := []byte{first[d.below(len(first))]}
	length := []int{1, 2, 3, 8, 30, 31}[d.below(6)]
	for len(out) < length {
		out = append(out, others[d.below(len(others))])
	}
	return string(out)
}

// size draws from 1 to 262144, the edges often.
func (d *drawing) size() int {
	switch d.below(4) {
	case 0:
		return []int{1, 2, 9, 10, 255, 256, 65535, 65536, 262143, 262144}[d.below(10)]
	case 1:
		return 1 + d.below(100)
	}
	return 1 + d.below(262144)
}

// operation draws one that may be, of any kind.
func (d *drawing) operation() api.Op {
	o := api.Op{Kind: 1 + d.below(11)}
	if o.Kind != 11 {
		o.Name = d.name()
	}
	switch o.Kind {
	case 1, 4, 11:
		o.To = d.size()
	case 2, 3, 5, 7:
		o.Other = d.name()
	case 8:
		o.From, o.Data = d.size()-1, noise(512, d.seed)
	case 9:
		a, b := d.size(), d.size()-1
		o.From, o.To = min(a, b), max(a, b)
	case 10:
		o.From = d.size() - 1
		o.To = min(262144, o.From+d.below(33))
	}
	return o
}

// operations draws a list.
func (d *drawing) operations(most int) []api.Op {
	var ops []api.Op
	for range d.below(most + 1) {
		ops = append(ops, d.operation())
	}
	return ops
}

// spoilt draws an operation that has another field in one place; it may still be.
func (d *drawing) spoilt() api.Op {
	o := d.operation()
	numbers := []int{-1 << 63, -1, 0, 1, 32, 33, 262143, 262144, 262145, 1<<32 - 1, 1 << 32, 1<<32 + 1, 1<<63 - 1}
	names := []string{"", "a", "A", "0", "a b", "a\n", strings.Repeat("a", 31), strings.Repeat("a", 32), strings.Repeat("a", 257)}
	switch d.below(6) {
	case 0:
		o.Kind = d.below(14) - 1
	case 1:
		o.Name = names[d.below(len(names))]
	case 2:
		o.Other = names[d.below(len(names))]
	case 3:
		o.From = numbers[d.below(len(numbers))]
	case 4:
		o.To = numbers[d.below(len(numbers))]
	case 5:
		o.Data = make([]byte, []int{0, 1, 511, 512, 513}[d.below(5)])
	}
	return o
}

// The model is not to be wrong where all that is drawn may be.
func TestP16WhatIsDrawnMayBe(t *testing.T) {
	d := &drawing{seed: 5}
	kinds := map[int]int{}
	for range 5000 {
		o := d.operation()
		kinds[o.Kind]++
		if judged(o) != api.OK {
			t.Fatalf("%s may not be", told(o))
		}
		checkCheck(t, o, api.OK)
	}
	if len(kinds) != 11 {
		t.Errorf("%d kinds are drawn; want 11", len(kinds))
	}
}
