package op_test

import (
	"math"
	"strings"
	"testing"

	"cistern/api"
	"cistern/disk"
	"cistern/op"
	"cistern/pool"
	"cistern/vol"
)

// ofKind gives the operation of a kind from each, with what is set over it.
func ofKind(kind int, set ...func(*api.Op)) api.Op {
	o := each()[kind-1]
	for _, f := range set {
		f(&o)
	}
	return o
}

func withName(text string) func(*api.Op)  { return func(o *api.Op) { o.Name = text } }
func withOther(text string) func(*api.Op) { return func(o *api.Op) { o.Other = text } }
func withFrom(n int) func(*api.Op)        { return func(o *api.Op) { o.From = n } }
func withTo(n int) func(*api.Op)          { return func(o *api.Op) { o.To = n } }
func withData(size int) func(*api.Op)     { return func(o *api.Op) { o.Data = noise(size, 9) } }

func TestP16_1Kinds(t *testing.T) {
	for i, o := range each() {
		if o.Kind != i+1 {
			t.Fatalf("operation %d is of kind %d", i, o.Kind)
		}
		checkCheck(t, o, api.OK)
	}
	for _, kind := range []int{math.MinInt, -256, -11, -1, 0, 12, 13, 255, 256, 257, 256 + 11, 1 << 32, 1<<32 + 1, math.MaxInt} {
		checkCheck(t, api.Op{Kind: kind}, api.ErrActKind)
		for _, o := range each() {
			o.Kind = kind
			checkCheck(t, o, api.ErrActKind)
		}
		checkCheck(t, api.Op{Kind: kind, Name: "A", Other: "A", From: -1, To: -1, Data: []byte{1}}, api.ErrActKind)
	}
}

func TestP16_1FieldsThatAreNotUsed(t *testing.T) {
	sets := map[string][]func(*api.Op){
		"N": {withName("a"), withName("A"), withName("\x00"), withName(strings.Repeat("a", 40))},
		"O": {withOther("a"), withOther("A"), withOther("\x00"), withOther(strings.Repeat("a", 40))},
		"F": {withFrom(1), withFrom(-1), withFrom(math.MaxInt), withFrom(math.MinInt), withFrom(1 << 32)},
		"T": {withTo(1), withTo(-1), withTo(math.MaxInt), withTo(math.MinInt), withTo(1 << 32)},
		"D": {withData(1), withData(512), withData(513), func(o *api.Op) { o.Data = make([]byte, 1) }},
	}
	count := 0
	for kind := 1; kind <= 11; kind++ {
		for letter, list := range sets {
			if strings.Contains(uses[kind], letter) {
				continue
			}
			for _, set := range list {
				checkCheck(t, ofKind(kind, set), api.ErrActForm)
				count++
			}
		}
		// No bytes are no bytes, whether there is a list of them or none.
		if kind != api.OpWrite {
			checkCheck(t, ofKind(kind, func(o *api.Op) { o.Data = []byte{} }), api.OK)
		}
	}
	if count < 100 {
		t.Errorf("%d fields were set", count)
	}
}

func TestP16_1Names(t *testing.T) {
	good := []string{"a", "z", "~", "~~", "a0", "a.", "a-", "a_", "a@", "a~", "az09.-_@~", strings.Repeat("z", 30), strings.Repeat("z", 31), "~" + strings.Repeat("9", 30)}
	bad := []string{"", "0", "9", ".", "-", "_", "@", "A", "Z", " ", "0a", ".a", "-a", "_a", "@a", "Aa", " a", "a ", "aA", "a/", "a:", "a`", "a{", "a\n", "\na", "a\x00", "a\x7f", "ä", "aä", "a\xff", "a b", strings.Repeat("z", 32), strings.Repeat("z", 33), strings.Repeat("z", 256), strings.Repeat("z", 257), strings.Repeat("z", 5000)}
	for kind := 1; kind <= 11; kind++ {
		for letter, with := range map[string]func(string) func(*api.Op){"N": withName, "O": withOther} {
			if !strings.Contains(uses[kind], letter) {
				continue
			}
			for _, text := range good {
				checkCheck(t, ofKind(kind, with(text)), api.OK)
			}
			for _, text := range bad {
				checkCheck(t, ofKind(kind, with(text)), api.ErrActName)
			}
			for c := range 256 {
				one := string([]byte{byte(c)})
				for _, text := range []string{one, one + "a", "a" + one, "~a" + one + "a", strings.Repeat("a", 30) + one} {
					o := ofKind(kind, with(text))
					checkCheck(t, o, judged(o))
				}
			}
		}
		if strings.Contains(uses[kind], "O") {
			checkCheck(t, ofKind(kind, withName("same"), withOther("same")), api.OK)
			checkCheck(t, ofKind(kind, withName(""), withOther("")), api.ErrActName)
		}
	}
}

func TestP16_1Data(t *testing.T) {
	for _, size := range []int{0, 1, 256, 510, 511, 513, 514, 1024, 1 << 16} {
		checkCheck(t, ofKind(api.OpWrite, withData(size)), api.ErrActData)
		checkCheck(t, write("a", 0, make([]byte, size)), api.ErrActData)
	}
	checkCheck(t, write("a", 0, nil), api.ErrActData)
	checkCheck(t, write("a", 0, make([]byte, 512)), api.OK)
	checkCheck(t, write("a", 0, noise(512, 8)), api.OK)
	checkCheck(t, write("a", 0, make([]byte, 511, 512)), api.ErrActData)
	checkCheck(t, write("a", 0, make([]byte, 512, 600)), api.OK)
}

var edges = []int{math.MinInt, math.MinInt + 1, -1 << 32, -262145, -262144, -33, -32, -1, 0, 1, 2, 31, 32, 33, 34, 262111, 262112, 262113, 262143, 262144, 262145, 524288, 1<<31 - 1, 1 << 31, 1<<32 - 1, 1 << 32, 1<<32 + 1, math.MaxInt - 1, math.MaxInt}

func TestP16_1Sizes(t *testing.T) {
	for _, kind := range []int{api.OpCreate, api.OpResize, api.OpExtend} {
		for _, to := range edges {
			want := api.OK
			if to < 1 || to > 262144 {
				want = api.ErrActSize
			}
			checkCheck(t, ofKind(kind, withTo(to)), want)
		}
	}
}

func TestP16_1WhereAWriteGoes(t *testing.T) {
	for _, from := range edges {
		want := api.OK
		if from < 0 || from > 262143 {
			want = api.ErrActRange
		}
		checkCheck(t, ofKind(api.OpWrite, withFrom(from)), want)
	}
}

func TestP16_1Ranges(t *testing.T) {
	for _, from := range edges {
		for _, to := range edges {
			isRange := 0 <= from && from <= to && to <= 262144
			want := map[bool]api.Errno{true: api.OK, false: api.ErrActRange}
			checkCheck(t, discard("a", from, to), want[isRange])
			checkCheck(t, fill("a", from, to), want[isRange && to-from <= 32])
		}
	}
	for _, at := range []int{0, 1, 1000, 262144} {
		checkCheck(t, discard("a", at, at), api.OK)
		checkCheck(t, fill("a", at, at), api.OK)
		checkCheck(t, discard("a", at, at-1), api.ErrActRange)
		checkCheck(t, fill("a", at, at-1), api.ErrActRange)
		if at <= 262112 {
			checkCheck(t, fill("a", at, at+32), api.OK)
		}
		checkCheck(t, fill("a", at, at+33), api.ErrActRange)
	}
}

// Each operation here has all that may be wrong with its kind; then one thing behind the other is set right.
func TestP16_1TheOrderOfTheErrors(t *testing.T) {
	for kind := 1; kind <= 11; kind++ {
		good := ofKind(kind)
		bad := api.Op{Kind: kind + 300, Name: "A", Other: "A", From: -1, To: -1, Data: noise(511, 1)}
		checkCheck(t, bad, api.ErrActKind)
		bad.Kind = kind
		checkCheck(t, bad, api.ErrActForm)
		for letter, clear := range map[string]func(){
			"N": func() { bad.Name = "" }, "O": func() { bad.Other = "" }, "F": func() { bad.From = 0 }, "T": func() { bad.To = 0 }, "D": func() { bad.Data = nil },
		} {
			if !strings.Contains(uses[kind], letter) {
				checkCheck(t, bad, api.ErrActForm)
				clear()
			}
		}
		if strings.Contains(uses[kind], "O") {
			checkCheck(t, bad, api.ErrActName)
			other := bad
			other.Other = good.Other
			checkCheck(t, other, api.ErrActName)
			bad.Name = good.Name
			checkCheck(t, bad, api.ErrActName)
			bad.Other = good.Other
		} else if strings.Contains(uses[kind], "N") {
			checkCheck(t, bad, api.ErrActName)
			bad.Name = good.Name
		}
		if strings.Contains(uses[kind], "D") {
			checkCheck(t, bad, api.ErrActData)
			bad.Data = good.Data
		}
		switch kind {
		case api.OpCreate, api.OpResize, api.OpExtend:
			checkCheck(t, bad, api.ErrActSize)
		case api.OpWrite, api.OpDiscard, api.OpFill:
			checkCheck(t, bad, api.ErrActRange)
		}
		bad.From, bad.To = good.From, good.To
		checkCheck(t, bad, api.OK)
	}
}

func TestP16_1WhatIsDrawn(t *testing.T) {
	d := &drawing{seed: 77}
	met := map[api.Errno]int{}
	for range 20000 {
		o := d.spoilt()
		want := judged(o)
		met[want]++
		checkCheck(t, o, want)
	}
	for _, e := range []api.Errno{api.OK, api.ErrActKind, api.ErrActForm, api.ErrActName, api.ErrActData, api.ErrActSize, api.ErrActRange} {
		if met[e] < 20 {
			t.Errorf("of error %d %d are drawn", e, met[e])
		}
	}
}

// So what Check refuses is refused by every pool; and what it takes is refused by no pool for its form.
func TestP16_1WhatAPoolSays(t *testing.T) {
	blocks, e := pool.Needed(200)
	if e != api.OK {
		t.Fatalf("Needed = %d", e)
	}
	store, e := disk.New(blocks)
	if e != api.OK {
		t.Fatalf("disk.New = %d", e)
	}
	if e := pool.Format(store, 100); e != api.OK {
		t.Fatalf("Format = %d", e)
	}
	p, e := pool.Open(store)
	if e != api.OK {
		t.Fatalf("Open = %d", e)
	}
	for _, o := range list(create("a", 262144), snap("s", "a"), create("vol-2", 9), create("monday", 1)) {
		if e := vol.Do(p, o); e != api.OK {
			t.Fatalf("Do%s = %d", told(o), e)
		}
	}
	d := &drawing{seed: 3}
	for range 4000 {
		o := d.spoilt()
		if d.below(2) == 0 && isName(o.Name) {
			o.Name = "a"
		}
		if d.below(2) == 0 && isName(o.Other) {
			o.Other = "s"
		}
		before, done := op.Check(o), vol.Do(p, o)
		if before != api.OK && done == api.OK {
			t.Fatalf("Check%s = %d, but a pool has done it", told(o), before)
		}
		isForm := done >= api.ErrActKind && done <= api.ErrActData
		if before == api.OK && isForm || isForm && before != done {
			t.Fatalf("Check%s = %d, but a pool answers %d", told(o), before, done)
		}
		// What was made goes again, so that the next ones are not refused for want of volumes.
		if made := o.Kind <= api.OpClone; done == api.OK && made {
			vol.Do(p, remove(o.Name))
		}
	}
}
