// Package field: numbers in fixed widths, a sum, stamped blocks: see DOC.md, chapter 1.
package field

import "cistern/api"

// The greatest of what a field and a stamped block's first byte hold.
const (
	maxWidth = 8
	maxValue = 1<<63 - 1
	maxKind  = 255
)

// Where the parts of a stamped block begin; each ends where the next one begins.
const (
	kindAt   = 0
	lengthAt = 1
	seqAt    = 3
	sumAt    = 11
	bodyAt   = 15
)

// Pack lays numbers behind one another (P1.1).
func Pack(fields ...api.Field) ([]byte, api.Errno) {
	size := 0
	for _, f := range fields {
		if e := checkField(f); e != api.OK {
			return nil, e
		}
		size += f.Width
	}
	data := make([]byte, size)
	at := 0
	for _, f := range fields {
		putNumber(data[at:at+f.Width], uint64(f.Value))
		at += f.Width
	}
	return data, api.OK
}

// Unpack reads numbers of these widths (P1.2).
func Unpack(data []byte, widths ...int) ([]int, api.Errno) {
	size := 0
	for _, w := range widths {
		if !widthFits(w) {
			return nil, api.ErrFieldWidth
		}
		size += w
	}
	if len(data) != size {
		return nil, api.ErrFieldSize
	}
	values := make([]int, len(widths))
	at := 0
	for i, w := range widths {
		n := getNumber(data[at : at+w])
		if n > maxValue {
			return nil, api.ErrFieldValue
		}
		values[i] = int(n)
		at += w
	}
	return values, api.OK
}

// Sum gives the CRC-32C of data (P1.3).
func Sum(data []byte) uint32 { return sumOf(data) }

// SumOn goes on with a sum: it gives the sum of all bytes, if those ahead of data have this one. (That of no bytes is 0.) So what
// is written bit by bit is summed as it is written.
func SumOn(sum uint32, data []byte) uint32 {
	steps := sumSteps()
	sum = ^sum
	for _, b := range data {
		sum ^= uint32(b)
		sum = sum>>4 ^ steps[sum&15]
		sum = sum>>4 ^ steps[sum&15]
	}
	return ^sum
}

// Stamp makes a block of a body (P1.4).
func Stamp(kind int, seq int, body []byte) ([]byte, api.Errno) {
	if kind < 1 || kind > maxKind {
		return nil, api.ErrFieldKind
	}
	if seq < 0 || seq > api.MaxSeq {
		return nil, api.ErrFieldSeq
	}
	if len(body) > api.MaxBody {
		return nil, api.ErrFieldLong
	}
	block := make([]byte, api.BlockSize)
	block[kindAt] = byte(kind)
	putNumber(block[lengthAt:seqAt], uint64(len(body)))
	putNumber(block[seqAt:sumAt], uint64(seq))
	copy(block[bodyAt:], body)
	putNumber(block[sumAt:bodyAt], uint64(stampSum(block)))
	return block, api.OK
}

// Unstamp gives a stamped block's kind, sequence number and body (P1.5).
func Unstamp(block []byte) (int, int, []byte, api.Errno) {
	if len(block) != api.BlockSize {
		return 0, 0, nil, api.ErrFieldSize
	}
	kind := int(block[kindAt])
	length := int(getNumber(block[lengthAt:seqAt]))
	seq := getNumber(block[seqAt:sumAt])
	if kind == 0 || length > api.MaxBody || seq > api.MaxSeq {
		return 0, 0, nil, api.ErrFieldStamp
	}
	end := bodyAt + length
	if !allZero(block[end:]) {
		return 0, 0, nil, api.ErrFieldStamp
	}
	if getNumber(block[sumAt:bodyAt]) != uint64(stampSum(block)) {
		return 0, 0, nil, api.ErrFieldSum
	}
	body := make([]byte, length)
	copy(body, block[bodyAt:end])
	return kind, int(seq), body, api.OK
}

func checkField(f api.Field) api.Errno {
	if !widthFits(f.Width) {
		return api.ErrFieldWidth
	}
	// A move by 64 places leaves 0, so width 8 takes all that is not negative.
	if f.Value < 0 || uint64(f.Value)>>(8*uint(f.Width)) != 0 {
		return api.ErrFieldValue
	}
	return api.OK
}

func widthFits(width int) bool { return width >= 1 && width <= maxWidth }

// putNumber fills all of to with n, the lowest byte first.
func putNumber(to []byte, n uint64) {
	for i := range to {
		to[i] = byte(n)
		n >>= 8
	}
}

// getNumber reads all of from, at most 8 bytes; it is unsigned because the top bit of eight bytes may be set.
func getNumber(from []byte) uint64 {
	n := uint64(0)
	for i := len(from) - 1; i >= 0; i-- {
		n = n<<8 | uint64(from[i])
	}
	return n
}

// stampSum reads its own four bytes as zeros, so that making a sum and proving one are the same call.
func stampSum(block []byte) uint32 {
	return sumOf(block[:sumAt], make([]byte, bodyAt-sumAt), block[bodyAt:])
}

// sumOf sums the parts as if they stood behind one another, so that no block is copied to be summed.
func sumOf(parts ...[]byte) uint32 {
	sum := uint32(0)
	for _, part := range parts {
		sum = SumOn(sum, part)
	}
	return sum
}

// sumSteps gives what four of the sum's eight steps make of each half byte.
func sumSteps() [16]uint32 {
	return [16]uint32{
		0x00000000, 0x105ec76f, 0x20bd8ede, 0x30e349b1,
		0x417b1dbc, 0x5125dad3, 0x61c69362, 0x7198540d,
		0x82f63b78, 0x92a8fc17, 0xa24bb5a6, 0xb21572c9,
		0xc38d26c4, 0xd3d3e1ab, 0xe330a81a, 0xf36e6f75,
	}
}

func allZero(data []byte) bool {
	for _, b := range data {
		if b != 0 {
			return false
		}
	}
	return true
}
