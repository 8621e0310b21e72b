package field_test

import (
	"bytes"
	"hash/crc32"
	"math"
	"slices"
	"testing"

	"cistern/api"
	"cistern/field"
)

// greatest is the greatest value of a width, 1 to 8, as the chapter says it.
func greatest(width int) int {
	if width == 8 {
		return 9223372036854775807
	}
	n := 1
	for range width {
		n *= 256
	}
	return n - 1
}

// noise gives bytes that look like chance and are the same in each run.
func noise(size int, seed uint32) []byte {
	out := make([]byte, size)
	for i := range out {
		seed = seed*1664525 + 1013904223
		out[i] = byte(seed >> 24)
	}
	return out
}

// slowSum follows the chapter's words, bit by bit.
func slowSum(data []byte) uint32 {
	n := uint32(1<<32 - 1)
	for _, b := range data {
		n ^= uint32(b)
		for range 8 {
			out := n & 1
			n >>= 1
			if out == 1 {
				n ^= 0x82f63b78
			}
		}
	}
	return n ^ 0xffffffff
}

// layBlock lays any parts down as a stamped block has them, with the sum that belongs to them, may they be or not.
func layBlock(kind byte, length uint16, seq uint64, rest []byte) []byte {
	block := make([]byte, 512)
	block[0] = kind
	block[1], block[2] = byte(length), byte(length>>8)
	for i := range 8 {
		block[3+i] = byte(seq >> (8 * i))
	}
	copy(block[15:], rest)
	sum := slowSum(block)
	block[11], block[12], block[13], block[14] = byte(sum), byte(sum>>8), byte(sum>>16), byte(sum>>24)
	return block
}

func mustStamp(t *testing.T, kind int, seq int, body []byte) []byte {
	t.Helper()
	block, e := field.Stamp(kind, seq, body)
	if e != api.OK || len(block) != 512 {
		t.Fatalf("Stamp(%d, %d, %d bytes): %d bytes, error %d", kind, seq, len(body), len(block), e)
	}
	return block
}

func checkPack(t *testing.T, fields []api.Field, want []byte, wantErr api.Errno) {
	t.Helper()
	got, e := field.Pack(fields...)
	if e != wantErr || !bytes.Equal(got, want) {
		t.Errorf("Pack(%v) = %x, %d; want %x, %d", fields, got, e, want, wantErr)
	}
}

func TestP1_1PackOrdinary(t *testing.T) {
	checkPack(t, nil, nil, api.OK)
	checkPack(t, []api.Field{}, nil, api.OK)
	checkPack(t, []api.Field{{Width: 2, Value: 258}, {Width: 1, Value: 7}}, []byte{2, 1, 7}, api.OK)
	checkPack(t, []api.Field{{Width: 3, Value: 0x010203}, {Width: 5, Value: 0x0405060708}},
		[]byte{3, 2, 1, 8, 7, 6, 5, 4}, api.OK)
	checkPack(t, []api.Field{{Width: 8, Value: 1}, {Width: 4, Value: 0x80000000}},
		[]byte{1, 0, 0, 0, 0, 0, 0, 0, 0, 0, 0, 0x80}, api.OK)
}

func TestP1_1PackEdgesOfEachWidth(t *testing.T) {
	for width := 1; width <= 8; width++ {
		zeros := make([]byte, width)
		checkPack(t, []api.Field{{Width: width, Value: 0}}, zeros, api.OK)
		high := bytes.Repeat([]byte{0xff}, width)
		if width == 8 {
			high[7] = 0x7f
		}
		checkPack(t, []api.Field{{Width: width, Value: greatest(width)}}, high, api.OK)
		checkPack(t, []api.Field{{Width: width, Value: -1}}, nil, api.ErrFieldValue)
		checkPack(t, []api.Field{{Width: width, Value: math.MinInt}}, nil, api.ErrFieldValue)
		if width < 8 {
			checkPack(t, []api.Field{{Width: width, Value: greatest(width) + 1}}, nil, api.ErrFieldValue)
			checkPack(t, []api.Field{{Width: width, Value: math.MaxInt}}, nil, api.ErrFieldValue)
		}
	}
}

func TestP1_1PackWrongWidths(t *testing.T) {
	for _, width := range []int{0, 9, -1, -8, 16, 64, math.MinInt, math.MaxInt} {
		for _, value := range []int{0, 1, -1, math.MaxInt} {
			checkPack(t, []api.Field{{Width: width, Value: value}}, nil, api.ErrFieldWidth)
		}
	}
}

func TestP1_1PackTellsTheFirstWrongField(t *testing.T) {
	good := api.Field{Width: 1, Value: 255}
	large := api.Field{Width: 1, Value: 256}
	wide := api.Field{Width: 9, Value: 0}
	checkPack(t, []api.Field{large, wide}, nil, api.ErrFieldValue)
	checkPack(t, []api.Field{wide, large}, nil, api.ErrFieldWidth)
	checkPack(t, []api.Field{good, large, wide}, nil, api.ErrFieldValue)
	checkPack(t, []api.Field{good, wide, large}, nil, api.ErrFieldWidth)
	checkPack(t, []api.Field{good, good, {Width: 0, Value: -1}}, nil, api.ErrFieldWidth)
}

func checkUnpack(t *testing.T, data []byte, widths []int, want []int, wantErr api.Errno) {
	t.Helper()
	got, e := field.Unpack(data, widths...)
	if e != wantErr || !slices.Equal(got, want) {
		t.Errorf("Unpack(%x; %v) = %v, %d; want %v, %d", data, widths, got, e, want, wantErr)
	}
}

func TestP1_2UnpackOrdinary(t *testing.T) {
	checkUnpack(t, nil, nil, nil, api.OK)
	checkUnpack(t, []byte{}, []int{}, nil, api.OK)
	checkUnpack(t, []byte{2, 1, 7}, []int{2, 1}, []int{258, 7}, api.OK)
	checkUnpack(t, []byte{3, 2, 1, 8, 7, 6, 5, 4}, []int{3, 5}, []int{0x010203, 0x0405060708}, api.OK)
	checkUnpack(t, []byte{0, 0, 0, 0, 0, 0, 0, 0x80}, []int{4, 4}, []int{0, 0x80000000}, api.OK)
}

func TestP1_2UnpackEdgesOfEachWidth(t *testing.T) {
	for width := 1; width <= 8; width++ {
		high := bytes.Repeat([]byte{0xff}, width)
		if width == 8 {
			checkUnpack(t, high, []int{8}, nil, api.ErrFieldValue)
			high[7] = 0x7f
		}
		checkUnpack(t, high, []int{width}, []int{greatest(width)}, api.OK)
		checkUnpack(t, make([]byte, width), []int{width}, []int{0}, api.OK)
		checkUnpack(t, make([]byte, width-1), []int{width}, nil, api.ErrFieldSize)
		checkUnpack(t, make([]byte, width+1), []int{width}, nil, api.ErrFieldSize)
	}
}

func TestP1_2UnpackTopBitOfEightBytes(t *testing.T) {
	top := []byte{0, 0, 0, 0, 0, 0, 0, 0x80}
	checkUnpack(t, top, []int{8}, nil, api.ErrFieldValue)
	checkUnpack(t, append([]byte{5}, top...), []int{1, 8}, nil, api.ErrFieldValue)
	checkUnpack(t, append(bytes.Clone(top), 5), []int{8, 1}, nil, api.ErrFieldValue)
	for last := 0; last < 256; last++ {
		data := []byte{1, 0, 0, 0, 0, 0, 0, byte(last)}
		if last <= 127 {
			checkUnpack(t, data, []int{8}, []int{last<<56 + 1}, api.OK)
		} else {
			checkUnpack(t, data, []int{8}, nil, api.ErrFieldValue)
		}
	}
}

func TestP1_2UnpackWrongInputsInOrder(t *testing.T) {
	top := []byte{0, 0, 0, 0, 0, 0, 0, 0x80}
	for _, width := range []int{0, 9, -1, math.MinInt, math.MaxInt} {
		checkUnpack(t, nil, []int{width}, nil, api.ErrFieldWidth)
		checkUnpack(t, []byte{2}, []int{width}, nil, api.ErrFieldWidth)
		checkUnpack(t, []byte{2}, []int{1, width}, nil, api.ErrFieldWidth)
		checkUnpack(t, top, []int{8, width}, nil, api.ErrFieldWidth)
	}
	// Two wrong widths may add up to the number of bytes.
	checkUnpack(t, []byte{1, 2}, []int{3, -1}, nil, api.ErrFieldWidth)
	checkUnpack(t, make([]byte, 9), []int{9}, nil, api.ErrFieldWidth)
	checkUnpack(t, []byte{1}, nil, nil, api.ErrFieldSize)
	checkUnpack(t, nil, []int{1}, nil, api.ErrFieldSize)
	checkUnpack(t, []byte{2, 1}, []int{2, 1}, nil, api.ErrFieldSize)
	checkUnpack(t, []byte{2, 1, 7, 0}, []int{2, 1}, nil, api.ErrFieldSize)
	checkUnpack(t, top, []int{8, 1}, nil, api.ErrFieldSize)
	checkUnpack(t, append(bytes.Clone(top), 0), []int{8}, nil, api.ErrFieldSize)
}

func TestP1_3SumOfKnownBytes(t *testing.T) {
	for _, c := range []struct {
		data string
		want uint32
	}{{"", 0}, {"\x00", 0x527d5351}, {"a", 0xc1d04330}, {"123456789", 0xe3069283}} {
		if got := field.Sum([]byte(c.data)); got != c.want {
			t.Errorf("Sum(%q) = %08x, want %08x", c.data, got, c.want)
		}
	}
	if got := field.Sum(nil); got != 0 {
		t.Errorf("Sum(nil) = %08x, want 0", got)
	}
}

func TestP1_3SumFollowsTheRule(t *testing.T) {
	table := crc32.MakeTable(crc32.Castagnoli)
	for b := 0; b < 256; b++ {
		data := []byte{byte(b)}
		if got, want := field.Sum(data), slowSum(data); got != want {
			t.Errorf("Sum(%x) = %08x, want %08x", data, got, want)
		}
	}
	for size := 0; size < 1100; size++ {
		data := noise(size, uint32(size))
		got, want := field.Sum(data), slowSum(data)
		if got != want || got != crc32.Checksum(data, table) {
			t.Errorf("Sum of %d bytes = %08x, want %08x", size, got, want)
		}
	}
}

// A sum that goes on comes to the sum of all, wherever the bytes are cut.
func TestP1_3ASumThatGoesOn(t *testing.T) {
	data := noise(1100, 3)
	want := field.Sum(data)
	for cut := range len(data) + 1 {
		if got := field.SumOn(field.SumOn(0, data[:cut]), data[cut:]); got != want {
			t.Errorf("the sum of %d bytes, gone on with, = %08x, want %08x", cut, got, want)
		}
	}
	byByte := uint32(0)
	for i := range data {
		byByte = field.SumOn(byByte, data[i:i+1])
		if got := field.SumOn(byByte, nil); got != field.Sum(data[:i+1]) {
			t.Errorf("byte by byte the sum of %d bytes = %08x", i+1, got)
		}
	}
}

func TestP1_4StampLaysTheBlock(t *testing.T) {
	block := mustStamp(t, 7, 258, []byte{1, 2, 3})
	if head := []byte{7, 3, 0, 2, 1, 0, 0, 0, 0, 0, 0}; !bytes.Equal(block[:11], head) {
		t.Errorf("the head is %x, want %x", block[:11], head)
	}
	if body := []byte{1, 2, 3}; !bytes.Equal(block[15:18], body) {
		t.Errorf("the body is %x, want %x", block[15:18], body)
	}
	if !bytes.Equal(block[18:], make([]byte, 494)) {
		t.Errorf("what is behind the body is not all zeros: %x", block[18:])
	}
	blank := bytes.Clone(block)
	copy(blank[11:15], []byte{0, 0, 0, 0})
	sum := slowSum(blank)
	if want := []byte{byte(sum), byte(sum >> 8), byte(sum >> 16), byte(sum >> 24)}; !bytes.Equal(block[11:15], want) {
		t.Errorf("the sum's bytes are %x, want %x", block[11:15], want)
	}
}

func TestP1_4StampEdges(t *testing.T) {
	for _, kind := range []int{1, 2, 127, 128, 255} {
		for _, seq := range []int{0, 1, 255, 256, 1<<32 - 1, 1 << 32, 1<<40 - 1, 1 << 40} {
			for _, size := range []int{0, 1, 255, 256, 496, 497} {
				body := noise(size, uint32(kind*seq+size))
				got := mustStamp(t, kind, seq, body)
				if want := layBlock(byte(kind), uint16(size), uint64(seq), body); !bytes.Equal(got, want) {
					t.Errorf("Stamp(%d, %d, %d bytes) is %x, want %x", kind, seq, size, got, want)
				}
			}
		}
	}
	if got, want := mustStamp(t, 1, 0, nil), mustStamp(t, 1, 0, []byte{}); !bytes.Equal(got, want) {
		t.Errorf("a nil body and an empty one give other blocks")
	}
}

func TestP1_4StampWrongInputsInOrder(t *testing.T) {
	long := make([]byte, 498)
	for _, c := range []struct {
		kind, seq int
		body      []byte
		want      api.Errno
	}{
		{0, 0, nil, api.ErrFieldKind},
		{256, 0, nil, api.ErrFieldKind},
		{-1, 0, nil, api.ErrFieldKind},
		{257, 0, nil, api.ErrFieldKind},
		{math.MinInt, 0, nil, api.ErrFieldKind},
		{math.MaxInt, 0, nil, api.ErrFieldKind},
		{0, -1, nil, api.ErrFieldKind},
		{256, 1<<40 + 1, long, api.ErrFieldKind},
		{0, 0, long, api.ErrFieldKind},
		{1, -1, nil, api.ErrFieldSeq},
		{255, 1<<40 + 1, nil, api.ErrFieldSeq},
		{1, math.MinInt, nil, api.ErrFieldSeq},
		{1, math.MaxInt, nil, api.ErrFieldSeq},
		{1, -1, long, api.ErrFieldSeq},
		{1, 1<<40 + 1, long, api.ErrFieldSeq},
		{1, 0, long, api.ErrFieldLong},
		{255, 1 << 40, long, api.ErrFieldLong},
		{1, 0, make([]byte, 512), api.ErrFieldLong},
		{1, 0, make([]byte, 65536), api.ErrFieldLong},
		{1, 0, make([]byte, 65536+3), api.ErrFieldLong},
	} {
		block, e := field.Stamp(c.kind, c.seq, c.body)
		if e != c.want || len(block) != 0 {
			t.Errorf("Stamp(%d, %d, %d bytes) = %d bytes, %d; want %d", c.kind, c.seq, len(c.body), len(block), e, c.want)
		}
	}
}

func checkUnstamp(t *testing.T, block []byte, kind int, seq int, body []byte) {
	t.Helper()
	gotKind, gotSeq, gotBody, e := field.Unstamp(block)
	if e != api.OK || gotKind != kind || gotSeq != seq || !bytes.Equal(gotBody, body) {
		t.Errorf("Unstamp = %d, %d, %x, %d; want %d, %d, %x", gotKind, gotSeq, gotBody, e, kind, seq, body)
	}
}

func checkRefused(t *testing.T, what string, block []byte, want api.Errno) {
	t.Helper()
	kind, seq, body, e := field.Unstamp(block)
	if e != want || kind != 0 || seq != 0 || len(body) != 0 {
		t.Errorf("Unstamp of %s = %d, %d, %x, %d; want error %d alone", what, kind, seq, body, e, want)
	}
}

func TestP1_5UnstampTakesWhatIsWellFormed(t *testing.T) {
	full := noise(497, 5)
	checkUnstamp(t, layBlock(7, 3, 258, []byte{1, 2, 3}), 7, 258, []byte{1, 2, 3})
	checkUnstamp(t, layBlock(1, 0, 0, nil), 1, 0, nil)
	checkUnstamp(t, layBlock(255, 497, 1<<40, full), 255, 1<<40, full)
	checkUnstamp(t, layBlock(128, 256, 1<<40-1, full[:256]), 128, 1<<40-1, full[:256])
	// Zeros at the body's end belong to the body as far as its length says.
	checkUnstamp(t, layBlock(9, 4, 1, []byte{0, 6, 0, 0}), 9, 1, []byte{0, 6, 0, 0})
}

func TestP1_5UnstampWrongSizes(t *testing.T) {
	good := mustStamp(t, 7, 258, []byte{1, 2, 3})
	checkRefused(t, "nothing", nil, api.ErrFieldSize)
	checkRefused(t, "one byte", []byte{1}, api.ErrFieldSize)
	checkRefused(t, "511 bytes", good[:511], api.ErrFieldSize)
	checkRefused(t, "513 bytes", append(bytes.Clone(good), 0), api.ErrFieldSize)
	checkRefused(t, "511 zeros", make([]byte, 511), api.ErrFieldSize)
	checkRefused(t, "513 zeros", make([]byte, 513), api.ErrFieldSize)
	checkRefused(t, "two blocks", append(bytes.Clone(good), good...), api.ErrFieldSize)
}

func TestP1_5UnstampNoStampedBlock(t *testing.T) {
	body := []byte{1, 2, 3}
	checkRefused(t, "512 zeros", make([]byte, 512), api.ErrFieldStamp)
	checkRefused(t, "512 bytes ff", bytes.Repeat([]byte{0xff}, 512), api.ErrFieldStamp)
	checkRefused(t, "a kind of 0", layBlock(0, 3, 258, body), api.ErrFieldStamp)
	for _, length := range []uint16{498, 499, 512, 32768, 65535} {
		checkRefused(t, "a length that is too great", layBlock(7, length, 258, body), api.ErrFieldStamp)
	}
	for _, seq := range []uint64{1<<40 + 1, 1 << 41, 1<<63 - 1, 1 << 63, 1<<63 + 258, 1<<64 - 1} {
		checkRefused(t, "a number that is too great", layBlock(7, 3, seq, body), api.ErrFieldStamp)
	}
	for size := 0; size < 497; size++ {
		behind := make([]byte, 497)
		behind[size] = 1
		checkRefused(t, "a byte right behind the body", layBlock(7, uint16(size), 258, behind), api.ErrFieldStamp)
		behind[size], behind[496] = 0, 0x80
		checkRefused(t, "a last byte that is not 0", layBlock(7, uint16(size), 258, behind), api.ErrFieldStamp)
	}
}

func TestP1_5UnstampStampAheadOfSum(t *testing.T) {
	body := []byte{1, 2, 3}
	spoilSum := func(block []byte) []byte {
		block[12] ^= 0x10
		return block
	}
	checkRefused(t, "a wrong sum", spoilSum(layBlock(7, 3, 258, body)), api.ErrFieldSum)
	checkRefused(t, "a wrong sum of an empty body", spoilSum(layBlock(1, 0, 0, nil)), api.ErrFieldSum)
	checkRefused(t, "a kind of 0 and a wrong sum", spoilSum(layBlock(0, 3, 258, body)), api.ErrFieldStamp)
	checkRefused(t, "a length of 498 and a wrong sum", spoilSum(layBlock(7, 498, 258, body)), api.ErrFieldStamp)
	checkRefused(t, "a great number and a wrong sum", spoilSum(layBlock(7, 3, 1<<40+1, body)), api.ErrFieldStamp)
	checkRefused(t, "a byte behind and a wrong sum", spoilSum(layBlock(7, 3, 258, []byte{1, 2, 3, 4})), api.ErrFieldStamp)
	third := mustStamp(t, 7, 258, body)
	third[17] = 4
	checkRefused(t, "the third body byte changed", third, api.ErrFieldSum)
}

// TestP1_5UnstampSumsTheWholeBlock: a sum that leaves out or takes in other bytes than the chapter says is refused.
func TestP1_5UnstampSumsTheWholeBlock(t *testing.T) {
	good := mustStamp(t, 7, 258, []byte{1, 2, 3})
	blank := bytes.Clone(good)
	copy(blank[11:15], []byte{0, 0, 0, 0})
	for _, part := range [][]byte{blank[:11], blank[:18], blank[15:18], blank[15:], append(bytes.Clone(blank[:11]), blank[15:]...), good} {
		sum := slowSum(part)
		block := bytes.Clone(good)
		copy(block[11:15], []byte{byte(sum), byte(sum >> 8), byte(sum >> 16), byte(sum >> 24)})
		checkRefused(t, "a sum of other bytes", block, api.ErrFieldSum)
	}
}

func TestP1_6UnpackOfPackAndBack(t *testing.T) {
	for seed := uint32(0); seed < 400; seed++ {
		raw := noise(9*20, seed)
		var fields []api.Field
		var widths, values []int
		for i := range int(seed % 21) {
			part := raw[9*i : 9*i+9]
			width := 1 + int(part[0]>>3)%8
			value := 0
			for k := range width {
				value |= int(part[1+k]) << (8 * k)
			}
			value &= greatest(width)
			fields = append(fields, api.Field{Width: width, Value: value})
			widths = append(widths, width)
			values = append(values, value)
		}
		data, e := field.Pack(fields...)
		if e != api.OK {
			t.Fatalf("Pack(%v): %d", fields, e)
		}
		checkUnpack(t, data, widths, values, api.OK)
	}
}

func TestP1_6PackOfUnpackAndBack(t *testing.T) {
	for seed := uint32(0); seed < 400; seed++ {
		var widths []int
		size := 0
		for _, b := range noise(int(seed%21), seed+1000) {
			widths = append(widths, 1+int(b>>3)%8)
			size += widths[len(widths)-1]
		}
		data := noise(size, seed)
		values, e := field.Unpack(data, widths...)
		if e == api.ErrFieldValue {
			continue
		}
		if e != api.OK || len(values) != len(widths) {
			t.Fatalf("Unpack(%x; %v): %v, %d", data, widths, values, e)
		}
		var fields []api.Field
		for i, w := range widths {
			fields = append(fields, api.Field{Width: w, Value: values[i]})
		}
		checkPack(t, fields, data, api.OK)
	}
}

func TestP1_6UnstampOfStampAndBack(t *testing.T) {
	for size := 0; size <= 497; size++ {
		kind := 1 + size%255
		seq := (size * 2203579) % (1<<40 + 1)
		for _, body := range [][]byte{noise(size, uint32(size)), make([]byte, size)} {
			block := mustStamp(t, kind, seq, body)
			checkUnstamp(t, block, kind, seq, body)
			gotKind, gotSeq, gotBody, _ := field.Unstamp(block)
			if again := mustStamp(t, gotKind, gotSeq, gotBody); !bytes.Equal(again, block) {
				t.Fatalf("Stamp of what Unstamp gives is another block (%d bytes)", size)
			}
		}
	}
}

// blocksToSpoil are stamped blocks with few, some and all bytes taken.
func blocksToSpoil(t *testing.T) [][]byte {
	return [][]byte{
		mustStamp(t, 1, 0, nil),
		mustStamp(t, 7, 258, []byte{1, 2, 3}),
		mustStamp(t, 255, 1<<40, noise(497, 3)),
	}
}

func checkSpoilt(t *testing.T, block []byte, at int, change []byte) {
	t.Helper()
	spoilt := bytes.Clone(block)
	for i, b := range change {
		spoilt[at+i] ^= b
	}
	kind, seq, body, e := field.Unstamp(spoilt)
	if e != api.ErrFieldStamp && e != api.ErrFieldSum || kind != 0 || seq != 0 || len(body) != 0 {
		t.Fatalf("bytes from %d on changed by %x: %d, %d, %d bytes, %d", at, change, kind, seq, len(body), e)
	}
}

func TestP1_6OneByteChanged(t *testing.T) {
	for _, block := range blocksToSpoil(t) {
		for at := range block {
			for change := 1; change < 256; change++ {
				checkSpoilt(t, block, at, []byte{byte(change)})
			}
		}
	}
}

func TestP1_6NeighboursChanged(t *testing.T) {
	for _, block := range blocksToSpoil(t) {
		for width := 2; width <= 4; width++ {
			for at := 0; at+width <= 512; at++ {
				if at+width > 11 && at < 15 {
					continue
				}
				for round := range 16 {
					change := noise(width, uint32(at*64+width*16+round))
					change[0] |= 1
					change[width-1] |= 0x80
					checkSpoilt(t, block, at, change)
				}
				checkSpoilt(t, block, at, bytes.Repeat([]byte{0xff}, width))
			}
		}
	}
}

func TestP1_6TheSumsOwnBytesChanged(t *testing.T) {
	for _, block := range blocksToSpoil(t) {
		for round := range 4096 {
			change := noise(4, uint32(round))
			change[round%4] |= 1
			checkSpoilt(t, block, 11, change)
		}
		// Changed by themselves they are all zeros.
		checkSpoilt(t, block, 11, bytes.Clone(block[11:15]))
	}
}

// roomy gives the items in a list with marked room behind them, and all of that list as it was.
func roomy[T any](items []T, mark T) ([]T, []T) {
	all := slices.Clone(items)
	for range 40 {
		all = append(all, mark)
	}
	return all[:len(items)], slices.Clone(all)
}

func checkUntouched[T comparable](t *testing.T, what string, list []T, was []T) {
	t.Helper()
	if !slices.Equal(list[:len(was)], was) {
		t.Errorf("%s: what was handed in is changed, or the room behind it", what)
	}
}

func TestR4PackChangesAndKeepsNothing(t *testing.T) {
	mark := api.Field{Width: 77, Value: 77}
	fields, was := roomy([]api.Field{{Width: 2, Value: 258}, {Width: 1, Value: 7}}, mark)
	first, _ := field.Pack(fields...)
	checkUntouched(t, "Pack", fields, was)
	second, _ := field.Pack(fields...)
	spoil(first, 0xee)
	fields[0], fields[1] = mark, mark
	if want := []byte{2, 1, 7}; !bytes.Equal(second, want) {
		t.Errorf("Pack: the second answer became %x, want %x", second, want)
	}
	for _, wrong := range [][]api.Field{{{Width: 1, Value: 256}}, {{Width: 1, Value: 1}, {Width: 0, Value: 1}}} {
		fields, was := roomy(wrong, mark)
		field.Pack(fields...)
		checkUntouched(t, "a refused Pack", fields, was)
	}
}

func TestR4UnpackChangesAndKeepsNothing(t *testing.T) {
	data, dataWas := roomy([]byte{2, 1, 7}, 0xaa)
	widths, widthsWas := roomy([]int{2, 1}, 55)
	first, _ := field.Unpack(data, widths...)
	checkUntouched(t, "Unpack: data", data, dataWas)
	checkUntouched(t, "Unpack: widths", widths, widthsWas)
	second, _ := field.Unpack(data, widths...)
	spoil(first, -5)
	checkUntouched(t, "Unpack: widths behind a write into the answer", widths, widthsWas)
	spoil(data, 0xee)
	spoil(widths, 3)
	if want := []int{258, 7}; !slices.Equal(second, want) {
		t.Errorf("Unpack: the second answer became %v, want %v", second, want)
	}
	for _, c := range []struct {
		data   []byte
		widths []int
	}{{[]byte{1}, []int{1, 0}}, {[]byte{1}, []int{2}}, {bytes.Repeat([]byte{0xff}, 8), []int{8}}} {
		data, dataWas := roomy(c.data, 0xaa)
		widths, widthsWas := roomy(c.widths, 55)
		field.Unpack(data, widths...)
		checkUntouched(t, "a refused Unpack: data", data, dataWas)
		checkUntouched(t, "a refused Unpack: widths", widths, widthsWas)
	}
}

func TestR4SumChangesNothing(t *testing.T) {
	data, was := roomy([]byte("123456789"), 0xaa)
	for range 2 {
		if got := field.Sum(data); got != 0xe3069283 {
			t.Errorf("Sum = %08x, want e3069283", got)
		}
	}
	checkUntouched(t, "Sum", data, was)
}

func TestR4StampChangesAndKeepsNothing(t *testing.T) {
	want := layBlock(7, 3, 258, []byte{1, 2, 3})
	body, was := roomy([]byte{1, 2, 3}, 0xaa)
	first, _ := field.Stamp(7, 258, body)
	checkUntouched(t, "Stamp", body, was)
	second, _ := field.Stamp(7, 258, body)
	spoil(first, 0xee)
	checkUntouched(t, "Stamp behind a write into the answer", body, was)
	spoil(body, 0xdd)
	if !bytes.Equal(second, want) {
		t.Errorf("Stamp: the second answer was changed through the first or through the body")
	}
	long, was := roomy(make([]byte, 498), 0xaa)
	field.Stamp(1, 0, long)
	checkUntouched(t, "a refused Stamp", long, was)
}

func TestR4UnstampChangesAndKeepsNothing(t *testing.T) {
	block, was := roomy(layBlock(7, 3, 258, []byte{1, 2, 3}), 0xaa)
	_, _, first, _ := field.Unstamp(block)
	checkUntouched(t, "Unstamp", block, was)
	_, _, second, _ := field.Unstamp(block)
	spoil(first, 0xee)
	_ = append(first, 0xee, 0xee)
	checkUntouched(t, "Unstamp behind a write into the answer", block, was)
	spoil(block, 0xdd)
	if want := []byte{1, 2, 3}; !bytes.Equal(second, want) {
		t.Errorf("Unstamp: the second body became %x, want %x", second, want)
	}
	wrongSum := layBlock(7, 3, 258, []byte{1, 2, 3})
	wrongSum[11] ^= 1
	for _, wrong := range [][]byte{make([]byte, 511), make([]byte, 512), wrongSum} {
		block, was := roomy(wrong, 0xaa)
		field.Unstamp(block)
		checkUntouched(t, "a refused Unstamp", block, was)
	}
}

// spoil writes into all of a list, the room behind it too.
func spoil[T any](list []T, with T) {
	list = list[:cap(list)]
	for i := range list {
		list[i] = with
	}
}
