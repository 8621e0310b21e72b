package disk_test

import (
	"bytes"
	"math"
	"slices"
	"testing"

	"cistern/api"
	"cistern/disk"
)

// named gives a block that is told by its first byte.
func named(name byte) []byte {
	data := make([]byte, 512)
	data[0] = name
	return data
}

// imageOf gives the image of blocks that are told by their first bytes; '0' stands for zeros.
func imageOf(names string) []byte {
	var image []byte
	for _, name := range []byte(names) {
		if name == '0' {
			name = 0
		}
		image = append(image, named(name)...)
	}
	return image
}

// noise gives bytes that look like chance and are the same in each run.
func noise(size int, seed uint32) []byte {
	out := make([]byte, size)
	for i := range out {
		seed = seed*1664525 + 1013904223
		out[i] = byte(seed >> 24)
	}
	return out
}

func newDisk(t *testing.T, blocks int) *disk.Disk {
	t.Helper()
	d, e := disk.New(blocks)
	if d == nil || e != api.OK {
		t.Fatalf("New(%d): %v, %d", blocks, d, e)
	}
	return d
}

func openDisk(t *testing.T, image []byte) *disk.Disk {
	t.Helper()
	d, e := disk.Open(image)
	if d == nil || e != api.OK {
		t.Fatalf("Open(%d bytes): %v, %d", len(image), d, e)
	}
	return d
}

// darkDisk gives a disk of blocks A, B and zeros with D pending for block 2, and the power off.
func darkDisk(t *testing.T) *disk.Disk {
	t.Helper()
	d := openDisk(t, imageOf("AB0"))
	checkFuse(t, d, 1, api.OK)
	checkWrite(t, d, 2, named('D'), api.OK)
	checkFlush(t, d, api.ErrDiskOff)
	checkOn(t, d, false)
	return d
}

func checkBlocks(t *testing.T, d *disk.Disk, want int, wantErr api.Errno) {
	t.Helper()
	if got, e := d.Blocks(); got != want || e != wantErr {
		t.Errorf("Blocks() = %d, %d; want %d, %d", got, e, want, wantErr)
	}
}

func checkRead(t *testing.T, d *disk.Disk, at int, want []byte, wantErr api.Errno) {
	t.Helper()
	if got, e := d.Read(at); !bytes.Equal(got, want) || e != wantErr {
		t.Errorf("Read(%d) = %d bytes, error %d, as wanted: %v; want error %d", at, len(got), e, bytes.Equal(got, want), wantErr)
	}
}

func checkWrite(t *testing.T, d *disk.Disk, at int, data []byte, wantErr api.Errno) {
	t.Helper()
	if e := d.Write(at, data); e != wantErr {
		t.Errorf("Write(%d, %d bytes) = %d; want %d", at, len(data), e, wantErr)
	}
}

func checkFlush(t *testing.T, d *disk.Disk, wantErr api.Errno) {
	t.Helper()
	if e := d.Flush(); e != wantErr {
		t.Errorf("Flush() = %d; want %d", e, wantErr)
	}
}

func checkFuse(t *testing.T, d *disk.Disk, n int, wantErr api.Errno) {
	t.Helper()
	if e := d.Fuse(n); e != wantErr {
		t.Errorf("Fuse(%d) = %d; want %d", n, e, wantErr)
	}
}

func checkOn(t *testing.T, d *disk.Disk, want bool) {
	t.Helper()
	if got := d.On(); got != want {
		t.Errorf("On() = %v; want %v", got, want)
	}
}

func checkPending(t *testing.T, d *disk.Disk, want ...int) {
	t.Helper()
	if got, e := d.Pending(); !slices.Equal(got, want) || e != api.OK {
		t.Errorf("Pending() = %v, %d; want %v", got, e, want)
	}
}

func checkImage(t *testing.T, d *disk.Disk, want []byte) {
	t.Helper()
	if got, e := d.Image(); !bytes.Equal(got, want) || e != api.OK {
		t.Errorf("Image() = %d bytes, error %d, as wanted: %v", len(got), e, bytes.Equal(got, want))
	}
}

func checkCrash(t *testing.T, d *disk.Disk, keep []int, want []byte, wantErr api.Errno) {
	t.Helper()
	if got, e := d.Crash(keep); !bytes.Equal(got, want) || e != wantErr {
		t.Errorf("Crash(%v) = %d bytes, error %d, as wanted: %v; want error %d", keep, len(got), e, bytes.Equal(got, want), wantErr)
	}
}

// checkState holds all that a disk tells against what it should: the image that lasts and the pending writes.
func checkState(t *testing.T, d *disk.Disk, lasts []byte, pending ...api.Put) {
	t.Helper()
	checkBlocks(t, d, len(lasts)/512, api.OK)
	checkImage(t, d, lasts)
	seen := bytes.Clone(lasts)
	var blocks, places []int
	for place, w := range pending {
		copy(seen[512*w.At:], w.Data)
		blocks = append(blocks, w.At)
		places = append(places, place)
	}
	checkPending(t, d, blocks...)
	checkCrash(t, d, nil, lasts, api.OK)
	checkCrash(t, d, places, seen, api.OK)
	if !d.On() {
		return
	}
	for at := range len(lasts) / 512 {
		checkRead(t, d, at, seen[512*at:512*at+512], api.OK)
	}
}

func TestP2ExamplesInTheirOrder(t *testing.T) {
	d := newDisk(t, 3)
	checkRead(t, d, 2, named(0), api.OK)
	checkRead(t, d, 3, nil, api.ErrDiskAt)
	checkRead(t, d, -1, nil, api.ErrDiskAt)
	checkWrite(t, d, 0, named('A'), api.OK)
	checkWrite(t, d, 1, named('B'), api.OK)
	checkWrite(t, d, 0, named('C'), api.OK)
	checkRead(t, d, 0, named('C'), api.OK)
	checkPending(t, d, 0, 1, 0)
	checkImage(t, d, imageOf("000"))
	checkCrash(t, d, nil, imageOf("000"), api.OK)
	checkCrash(t, d, []int{0}, imageOf("A00"), api.OK)
	checkCrash(t, d, []int{1, 2}, imageOf("CB0"), api.OK)
	checkCrash(t, d, []int{0, 1, 2}, imageOf("CB0"), api.OK)
	checkCrash(t, d, []int{2, 1}, nil, api.ErrDiskKeep)
	checkCrash(t, d, []int{3}, nil, api.ErrDiskKeep)
	checkCrash(t, d, []int{0, 0}, nil, api.ErrDiskKeep)
	checkFlush(t, d, api.OK)
	checkPending(t, d)
	checkImage(t, d, imageOf("CB0"))
	checkWrite(t, d, 3, named('A'), api.ErrDiskAt)
	checkWrite(t, d, 0, make([]byte, 511), api.ErrDiskData)
	checkFuse(t, d, -2, api.ErrDiskFuse)
	checkFuse(t, d, 1, api.OK)
	checkWrite(t, d, 7, named('A'), api.ErrDiskAt)
	checkWrite(t, d, 2, named('D'), api.OK)
	checkOn(t, d, true)
	checkRead(t, d, 2, named('D'), api.OK)
	checkWrite(t, d, 7, named('A'), api.ErrDiskAt)
	checkOn(t, d, true)
	checkFlush(t, d, api.ErrDiskOff)
	checkOn(t, d, false)
	checkRead(t, d, 0, nil, api.ErrDiskOff)
	checkFlush(t, d, api.ErrDiskOff)
	checkWrite(t, d, 9, nil, api.ErrDiskOff)
	checkFuse(t, d, -1, api.ErrDiskOff)
	checkPending(t, d, 2)
	checkImage(t, d, imageOf("CB0"))
	checkCrash(t, d, []int{0}, imageOf("CBD"), api.OK)
	checkBlocks(t, d, 3, api.OK)
	checkNewRefused(t, 0)
	checkNewRefused(t, 524289)
	checkOpenRefused(t, nil)
	checkOpenRefused(t, make([]byte, 513))
}

func checkNewRefused(t *testing.T, blocks int) {
	t.Helper()
	if d, e := disk.New(blocks); d != nil || e != api.ErrDiskBlocks {
		t.Errorf("New(%d) = a disk: %v, %d; want none, %d", blocks, d != nil, e, api.ErrDiskBlocks)
	}
}

func checkOpenRefused(t *testing.T, image []byte) {
	t.Helper()
	if d, e := disk.Open(image); d != nil || e != api.ErrDiskImage {
		t.Errorf("Open(%d bytes) = a disk: %v, %d; want none, %d", len(image), d != nil, e, api.ErrDiskImage)
	}
}

func TestP2_1NewRefuses(t *testing.T) {
	for _, blocks := range []int{0, -1, -512, math.MinInt, 524289, 1 << 20, 1 << 55, math.MaxInt} {
		checkNewRefused(t, blocks)
	}
}

func TestP2_1NewIsZerosWithThePowerOnAndNoFuse(t *testing.T) {
	for _, blocks := range []int{1, 2, 3, 100} {
		d := newDisk(t, blocks)
		checkOn(t, d, true)
		checkState(t, d, make([]byte, 512*blocks))
		for round := range 50 {
			checkWrite(t, d, blocks-1, named(byte(round+1)), api.OK)
			checkFlush(t, d, api.OK)
		}
		checkOn(t, d, true)
	}
}

func TestP2_1NewOfTheMostBlocks(t *testing.T) {
	d := newDisk(t, 524288)
	checkBlocks(t, d, 524288, api.OK)
	for _, at := range []int{0, 1, 262144, 524287} {
		checkRead(t, d, at, named(0), api.OK)
	}
	checkRead(t, d, 524288, nil, api.ErrDiskAt)
	checkWrite(t, d, 524288, named('A'), api.ErrDiskAt)
	checkWrite(t, d, 524287, named('A'), api.OK)
	checkRead(t, d, 524287, named('A'), api.OK)
	checkFlush(t, d, api.OK)
	checkRead(t, d, 524287, named('A'), api.OK)
	checkRead(t, d, 524286, named(0), api.OK)
	image, e := d.Image()
	if e != api.OK || len(image) != 524288*512 || image[524287*512] != 'A' {
		t.Errorf("Image() = %d bytes, %d", len(image), e)
	}
}

func TestP2_2OpenRefuses(t *testing.T) {
	checkOpenRefused(t, nil)
	checkOpenRefused(t, []byte{})
	for _, size := range []int{1, 256, 511, 513, 1023, 1025} {
		checkOpenRefused(t, make([]byte, size))
	}
}

func TestP2_2OpenOfTheMostBlocksAndMore(t *testing.T) {
	image := make([]byte, 524289*512)
	checkOpenRefused(t, image)
	checkOpenRefused(t, image[:524288*512+1])
	checkOpenRefused(t, image[:524288*512-1])
	image[524287*512] = 'Z'
	d := openDisk(t, image[:524288*512])
	checkBlocks(t, d, 524288, api.OK)
	checkRead(t, d, 524287, named('Z'), api.OK)
	checkRead(t, d, 524288, nil, api.ErrDiskAt)
}

func TestP2_2OpenLastsAsTheImageStands(t *testing.T) {
	for _, blocks := range []int{1, 2, 17} {
		image := noise(512*blocks, uint32(blocks))
		d := openDisk(t, image)
		checkOn(t, d, true)
		checkState(t, d, image)
		for range 50 {
			checkFlush(t, d, api.OK)
		}
		checkState(t, d, image)
	}
}

func TestP2_3BlocksNeverChanges(t *testing.T) {
	d := newDisk(t, 5)
	checkBlocks(t, d, 5, api.OK)
	checkWrite(t, d, 4, named('A'), api.OK)
	checkBlocks(t, d, 5, api.OK)
	checkFlush(t, d, api.OK)
	checkBlocks(t, d, 5, api.OK)
	checkBlocks(t, darkDisk(t), 3, api.OK)
}

func TestP2_4ReadGivesWhatIsSeen(t *testing.T) {
	d := openDisk(t, imageOf("AB0"))
	checkRead(t, d, 0, named('A'), api.OK)
	checkWrite(t, d, 0, named('C'), api.OK)
	checkRead(t, d, 0, named('C'), api.OK)
	checkRead(t, d, 1, named('B'), api.OK)
	checkWrite(t, d, 0, named('D'), api.OK)
	checkRead(t, d, 0, named('D'), api.OK)
	// A pending write of zeros is seen ahead of what lasts too.
	checkWrite(t, d, 0, named(0), api.OK)
	checkRead(t, d, 0, named(0), api.OK)
	checkFlush(t, d, api.OK)
	checkRead(t, d, 0, named(0), api.OK)
	checkWrite(t, d, 0, noise(512, 4), api.OK)
	checkRead(t, d, 0, noise(512, 4), api.OK)
}

func TestP2_4ReadEdges(t *testing.T) {
	for _, blocks := range []int{1, 3} {
		d := newDisk(t, blocks)
		checkRead(t, d, 0, named(0), api.OK)
		checkRead(t, d, blocks-1, named(0), api.OK)
		for _, at := range []int{-1, blocks, blocks + 1, math.MinInt, math.MaxInt, 1 << 32, 1 << 55} {
			checkRead(t, d, at, nil, api.ErrDiskAt)
		}
	}
}

func TestP2_4ReadsNeverCount(t *testing.T) {
	d := openDisk(t, imageOf("AB0"))
	checkFuse(t, d, 1, api.OK)
	for range 20 {
		checkRead(t, d, 0, named('A'), api.OK)
		checkRead(t, d, 3, nil, api.ErrDiskAt)
		checkPending(t, d)
		checkImage(t, d, imageOf("AB0"))
		checkCrash(t, d, nil, imageOf("AB0"), api.OK)
	}
	checkWrite(t, d, 0, named('C'), api.OK)
	for range 20 {
		checkRead(t, d, 0, named('C'), api.OK)
	}
	checkOn(t, d, true)
	checkFlush(t, d, api.ErrDiskOff)
}

func TestP2_5WriteIsOnePendingWriteMore(t *testing.T) {
	d := openDisk(t, imageOf("AB0"))
	checkWrite(t, d, 2, named('C'), api.OK)
	checkState(t, d, imageOf("AB0"), api.Put{At: 2, Data: named('C')})
	checkWrite(t, d, 0, named('D'), api.OK)
	checkState(t, d, imageOf("AB0"), api.Put{At: 2, Data: named('C')}, api.Put{At: 0, Data: named('D')})
	// The same bytes once more are a write like any other.
	checkWrite(t, d, 2, named('C'), api.OK)
	checkPending(t, d, 2, 0, 2)
}

func TestP2_5WriteRefuses(t *testing.T) {
	d := openDisk(t, imageOf("AB0"))
	checkWrite(t, d, 1, named('C'), api.OK)
	for _, at := range []int{-1, 3, 4, math.MinInt, math.MaxInt, 1 << 32, 1 << 55} {
		checkWrite(t, d, at, named('D'), api.ErrDiskAt)
		checkWrite(t, d, at, nil, api.ErrDiskAt)
		checkWrite(t, d, at, make([]byte, 511), api.ErrDiskAt)
	}
	for _, size := range []int{0, 1, 511, 513, 1024} {
		checkWrite(t, d, 0, make([]byte, size), api.ErrDiskData)
		checkWrite(t, d, 2, make([]byte, size), api.ErrDiskData)
	}
	checkWrite(t, d, 0, nil, api.ErrDiskData)
	checkState(t, d, imageOf("AB0"), api.Put{At: 1, Data: named('C')})
	checkOn(t, d, true)
}

func TestP2_5WriteErrorsInOrder(t *testing.T) {
	d := openDisk(t, imageOf("AB0"))
	checkFuse(t, d, 0, api.OK)
	checkWrite(t, d, 3, make([]byte, 511), api.ErrDiskAt)
	checkWrite(t, d, -1, named('C'), api.ErrDiskAt)
	checkWrite(t, d, 0, make([]byte, 511), api.ErrDiskData)
	checkWrite(t, d, 0, nil, api.ErrDiskData)
	checkOn(t, d, true)
	checkWrite(t, d, 0, named('C'), api.ErrDiskOff)
	checkOn(t, d, false)
	checkWrite(t, d, 3, named('C'), api.ErrDiskOff)
	checkWrite(t, d, 0, make([]byte, 511), api.ErrDiskOff)
	checkWrite(t, d, 0, named('C'), api.ErrDiskOff)
	checkState(t, d, imageOf("AB0"))
}

func TestP2_6FlushMakesAllLast(t *testing.T) {
	d := openDisk(t, imageOf("AB0"))
	checkWrite(t, d, 0, named('C'), api.OK)
	checkWrite(t, d, 2, named('D'), api.OK)
	checkWrite(t, d, 0, named('E'), api.OK)
	checkFlush(t, d, api.OK)
	checkState(t, d, imageOf("EBD"))
	checkFlush(t, d, api.OK)
	checkState(t, d, imageOf("EBD"))
	checkWrite(t, d, 0, named('F'), api.OK)
	checkState(t, d, imageOf("EBD"), api.Put{At: 0, Data: named('F')})
	checkFlush(t, d, api.OK)
	checkState(t, d, imageOf("FBD"))
}

func TestP2_6FlushThatDoesNotGoThrough(t *testing.T) {
	d := openDisk(t, imageOf("AB0"))
	checkFuse(t, d, 2, api.OK)
	checkWrite(t, d, 0, named('C'), api.OK)
	checkWrite(t, d, 1, named('D'), api.OK)
	checkOn(t, d, true)
	checkFlush(t, d, api.ErrDiskOff)
	checkOn(t, d, false)
	checkState(t, d, imageOf("AB0"), api.Put{At: 0, Data: named('C')}, api.Put{At: 1, Data: named('D')})
	checkFlush(t, d, api.ErrDiskOff)
	checkState(t, d, imageOf("AB0"), api.Put{At: 0, Data: named('C')}, api.Put{At: 1, Data: named('D')})
}

func TestP2_7FuseLetsSoManyThrough(t *testing.T) {
	for fuse := range 9 {
		for round := range 4 {
			d := newDisk(t, 2)
			checkFuse(t, d, fuse, api.OK)
			for i := range fuse {
				checkOn(t, d, true)
				if (i+round)%3 == 0 {
					checkFlush(t, d, api.OK)
				} else {
					checkWrite(t, d, i%2, named('A'), api.OK)
				}
			}
			checkOn(t, d, true)
			if round%2 == 0 {
				checkFlush(t, d, api.ErrDiskOff)
			} else {
				checkWrite(t, d, 1, named('B'), api.ErrDiskOff)
			}
			checkOn(t, d, false)
		}
	}
}

func TestP2_7RefusedWritesDoNotCount(t *testing.T) {
	d := newDisk(t, 3)
	checkFuse(t, d, 1, api.OK)
	for range 5 {
		checkWrite(t, d, 3, named('A'), api.ErrDiskAt)
		checkWrite(t, d, 0, make([]byte, 513), api.ErrDiskData)
	}
	checkWrite(t, d, 0, named('A'), api.OK)
	for range 5 {
		checkWrite(t, d, -1, named('A'), api.ErrDiskAt)
		checkWrite(t, d, 0, make([]byte, 511), api.ErrDiskData)
	}
	checkOn(t, d, true)
	checkWrite(t, d, 0, named('B'), api.ErrDiskOff)
	checkOn(t, d, false)
	checkState(t, d, imageOf("000"), api.Put{At: 0, Data: named('A')})
}

func TestP2_7FuseRefuses(t *testing.T) {
	for _, n := range []int{-2, -3, math.MinInt} {
		d := newDisk(t, 1)
		checkFuse(t, d, n, api.ErrDiskFuse)
		for range 5 {
			checkFlush(t, d, api.OK)
		}
		// Behind a refused call the fuse that was set burns on.
		checkFuse(t, d, 1, api.OK)
		checkFuse(t, d, n, api.ErrDiskFuse)
		checkFlush(t, d, api.OK)
		checkFuse(t, d, n, api.ErrDiskFuse)
		checkOn(t, d, true)
		checkFlush(t, d, api.ErrDiskOff)
		checkFuse(t, d, n, api.ErrDiskOff)
	}
}

func TestP2_7FuseAnewAndNone(t *testing.T) {
	d := newDisk(t, 1)
	checkFuse(t, d, 0, api.OK)
	checkOn(t, d, true)
	checkRead(t, d, 0, named(0), api.OK)
	checkFuse(t, d, -1, api.OK)
	for range 20 {
		checkFlush(t, d, api.OK)
	}
	checkFuse(t, d, 3, api.OK)
	checkFlush(t, d, api.OK)
	checkFuse(t, d, 2, api.OK)
	checkFlush(t, d, api.OK)
	checkFlush(t, d, api.OK)
	checkFuse(t, d, -1, api.OK)
	checkFuse(t, d, -1, api.OK)
	checkFlush(t, d, api.OK)
	checkFuse(t, d, math.MaxInt, api.OK)
	for range 20 {
		checkFlush(t, d, api.OK)
	}
	checkFuse(t, d, 0, api.OK)
	checkFlush(t, d, api.ErrDiskOff)
	checkFuse(t, d, -1, api.ErrDiskOff)
	checkFuse(t, d, 5, api.ErrDiskOff)
	checkOn(t, d, false)
	checkFlush(t, d, api.ErrDiskOff)
}

func TestP2_8OffForGood(t *testing.T) {
	d := darkDisk(t)
	for range 3 {
		checkFuse(t, d, -1, api.ErrDiskOff)
		checkFlush(t, d, api.ErrDiskOff)
		checkWrite(t, d, 0, named('X'), api.ErrDiskOff)
		checkOn(t, d, false)
	}
	checkState(t, d, imageOf("AB0"), api.Put{At: 2, Data: named('D')})
}

func TestP2_9PendingInOrder(t *testing.T) {
	d := newDisk(t, 10)
	checkPending(t, d)
	var want []int
	for _, at := range []int{9, 0, 4, 9, 9, 0, 1, 4} {
		want = append(want, at)
		checkWrite(t, d, at, named('A'), api.OK)
		checkPending(t, d, want...)
	}
	checkWrite(t, d, 10, named('A'), api.ErrDiskAt)
	checkPending(t, d, want...)
	checkFlush(t, d, api.OK)
	checkPending(t, d)
	checkWrite(t, d, 3, named('B'), api.OK)
	checkPending(t, d, 3)
	checkPending(t, darkDisk(t), 2)
}

func TestP2_10ImageIsWhatLasts(t *testing.T) {
	image := noise(512*4, 7)
	d := openDisk(t, image)
	checkImage(t, d, image)
	checkWrite(t, d, 1, named('A'), api.OK)
	checkImage(t, d, image)
	checkFlush(t, d, api.OK)
	copy(image[512:], named('A'))
	checkImage(t, d, image)
	checkState(t, openDisk(t, image), image)
	checkImage(t, darkDisk(t), imageOf("AB0"))
}

// placesOf gives the places whose bits are set in choice, rising.
func placesOf(choice int, count int) []int {
	var places []int
	for place := range count {
		if choice>>place&1 == 1 {
			places = append(places, place)
		}
	}
	return places
}

func TestP2_11CrashOfEveryChoice(t *testing.T) {
	lasts := imageOf("xyz")
	d := openDisk(t, lasts)
	writes := []api.Put{
		{At: 0, Data: named('A')}, {At: 1, Data: named('B')}, {At: 0, Data: named('C')},
		{At: 2, Data: named(0)}, {At: 0, Data: noise(512, 1)}, {At: 1, Data: named('D')},
	}
	for _, w := range writes {
		checkWrite(t, d, w.At, w.Data, api.OK)
	}
	for choice := range 1 << len(writes) {
		places := placesOf(choice, len(writes))
		want := bytes.Clone(lasts)
		for _, place := range places {
			copy(want[512*writes[place].At:], writes[place].Data)
		}
		checkCrash(t, d, places, want, api.OK)
	}
	checkState(t, d, lasts, writes...)
}

func TestP2_11ABlockWrittenTwice(t *testing.T) {
	for _, dark := range []bool{false, true} {
		d := openDisk(t, imageOf("0Z"))
		checkWrite(t, d, 0, named('A'), api.OK)
		checkWrite(t, d, 0, named('B'), api.OK)
		if dark {
			checkFuse(t, d, 0, api.OK)
			checkFlush(t, d, api.ErrDiskOff)
		}
		checkOn(t, d, !dark)
		checkCrash(t, d, nil, imageOf("0Z"), api.OK)
		checkCrash(t, d, []int{}, imageOf("0Z"), api.OK)
		checkCrash(t, d, []int{0}, imageOf("AZ"), api.OK)
		checkCrash(t, d, []int{1}, imageOf("BZ"), api.OK)
		checkCrash(t, d, []int{0, 1}, imageOf("BZ"), api.OK)
		checkCrash(t, d, []int{1, 0}, nil, api.ErrDiskKeep)
	}
}

func TestP2_11CrashRefuses(t *testing.T) {
	writes := []api.Put{{At: 0, Data: named('A')}, {At: 1, Data: named('B')}, {At: 0, Data: named('C')}}
	d := newDisk(t, 2)
	for _, w := range writes {
		checkWrite(t, d, w.At, w.Data, api.OK)
	}
	for _, keep := range [][]int{
		{-1}, {3}, {0, 0}, {2, 2}, {1, 0}, {2, 1}, {0, 2, 1}, {0, 1, 2, 3}, {0, 1, 2, 2}, {-1, 0}, {0, -1},
		{1, 3}, {3, 0}, {0, 1, 1}, {math.MinInt}, {math.MaxInt}, {0, math.MaxInt}, {math.MaxInt, math.MinInt},
	} {
		checkCrash(t, d, keep, nil, api.ErrDiskKeep)
	}
	checkState(t, d, imageOf("00"), writes...)
	checkFlush(t, d, api.OK)
	for _, keep := range [][]int{{0}, {-1}, {1, 0}} {
		checkCrash(t, d, keep, nil, api.ErrDiskKeep)
	}
	checkCrash(t, d, nil, imageOf("CB"), api.OK)
}

func TestP2_11CrashIsAQuestionAlone(t *testing.T) {
	d := openDisk(t, imageOf("AB0"))
	checkFuse(t, d, 3, api.OK)
	checkWrite(t, d, 0, named('C'), api.OK)
	for range 10 {
		checkCrash(t, d, []int{0}, imageOf("CB0"), api.OK)
		checkCrash(t, d, []int{1}, nil, api.ErrDiskKeep)
	}
	checkState(t, d, imageOf("AB0"), api.Put{At: 0, Data: named('C')})
	checkWrite(t, d, 2, named('D'), api.OK)
	checkFlush(t, d, api.OK)
	checkState(t, d, imageOf("CBD"))
	checkOn(t, d, true)
	checkFlush(t, d, api.ErrDiskOff)
}

// model is a disk as the chapter's words have it: nothing is looked up, all is gone through.
type model struct {
	lasts   []byte
	pending []api.Put
	fuse    int
	off     bool
}

func (m *model) through() api.Errno {
	if m.off {
		return api.ErrDiskOff
	}
	if m.fuse == 0 {
		m.off = true
		return api.ErrDiskOff
	}
	if m.fuse > 0 {
		m.fuse--
	}
	return api.OK
}

func (m *model) write(at int, data []byte) api.Errno {
	switch {
	case m.off:
		return api.ErrDiskOff
	case at < 0 || at >= len(m.lasts)/512:
		return api.ErrDiskAt
	case len(data) != 512:
		return api.ErrDiskData
	}
	e := m.through()
	if e == api.OK {
		m.pending = append(m.pending, api.Put{At: at, Data: data})
	}
	return e
}

func (m *model) flush() api.Errno {
	e := m.through()
	if e == api.OK {
		for _, w := range m.pending {
			copy(m.lasts[512*w.At:], w.Data)
		}
		m.pending = nil
	}
	return e
}

func (m *model) setFuse(n int) api.Errno {
	switch {
	case m.off:
		return api.ErrDiskOff
	case n < -1:
		return api.ErrDiskFuse
	}
	m.fuse = n
	return api.OK
}

// step does to the disk and to the model what the three numbers say.
func step(t *testing.T, d *disk.Disk, m *model, kind byte, at int, fill byte) {
	t.Helper()
	switch {
	case kind < 130:
		data := bytes.Repeat([]byte{fill}, 512)
		checkWrite(t, d, at, data, m.write(at, data))
	case kind < 150:
		data := make([]byte, 510+int(fill%3))
		checkWrite(t, d, at, data, m.write(at, data))
	case kind < 190:
		checkFlush(t, d, m.flush())
	case kind < 205:
		checkFuse(t, d, int(fill%40)-3, m.setFuse(int(fill%40)-3))
	default:
		places := placesOf(int(fill), min(8, len(m.pending)))
		want := bytes.Clone(m.lasts)
		for _, place := range places {
			copy(want[512*m.pending[place].At:], m.pending[place].Data)
		}
		checkCrash(t, d, places, want, api.OK)
	}
}

func TestP2_12AnyCallsInAnyOrder(t *testing.T) {
	for seed := range uint32(60) {
		blocks := 1 + int(seed%5)
		lasts := noise(512*blocks, seed)
		d := openDisk(t, lasts)
		m := &model{lasts: lasts, fuse: -1}
		acts := noise(3*120, seed+500)
		for i := 0; i < len(acts); i += 3 {
			step(t, d, m, acts[i], int(acts[i+1]>>4)%(blocks+2)-1, acts[i+2])
			checkOn(t, d, !m.off)
			checkState(t, d, m.lasts, m.pending...)
			if t.Failed() {
				t.Fatalf("disk %d, act %d", seed, i/3)
			}
		}
	}
}

func TestP2_12TwoDisks(t *testing.T) {
	image := imageOf("AB")
	one, other := openDisk(t, image), openDisk(t, image)
	checkWrite(t, one, 0, named('C'), api.OK)
	checkState(t, other, imageOf("AB"))
	checkFlush(t, one, api.OK)
	checkState(t, other, imageOf("AB"))
	checkWrite(t, other, 1, named('D'), api.OK)
	checkState(t, one, imageOf("CB"))
	checkFuse(t, one, 0, api.OK)
	checkFlush(t, other, api.OK)
	checkFlush(t, one, api.ErrDiskOff)
	checkOn(t, other, true)
	checkWrite(t, other, 0, named('E'), api.OK)
	checkState(t, one, imageOf("CB"))
	checkState(t, other, imageOf("AD"), api.Put{At: 0, Data: named('E')})
	left, _ := one.Crash(nil)
	made := openDisk(t, left)
	checkOn(t, made, true)
	checkWrite(t, made, 0, named('F'), api.OK)
	checkFlush(t, made, api.OK)
	checkState(t, one, imageOf("CB"))
	checkState(t, newDisk(t, 2), imageOf("00"))
}

func TestR3NilDisk(t *testing.T) {
	var d *disk.Disk
	checkBlocks(t, d, 0, api.ErrNil)
	checkRead(t, d, 0, nil, api.ErrNil)
	checkRead(t, d, -1, nil, api.ErrNil)
	checkWrite(t, d, 0, named('A'), api.ErrNil)
	checkWrite(t, d, -1, nil, api.ErrNil)
	checkWrite(t, d, 0, nil, api.ErrNil)
	checkFlush(t, d, api.ErrNil)
	checkFuse(t, d, 0, api.ErrNil)
	checkFuse(t, d, -2, api.ErrNil)
	checkOn(t, d, false)
	if got, e := d.Pending(); len(got) != 0 || e != api.ErrNil {
		t.Errorf("Pending() of nil = %v, %d", got, e)
	}
	if got, e := d.Image(); len(got) != 0 || e != api.ErrNil {
		t.Errorf("Image() of nil = %d bytes, %d", len(got), e)
	}
	checkCrash(t, d, nil, nil, api.ErrNil)
	checkCrash(t, d, []int{-1}, nil, api.ErrNil)
}

func TestR6EveryCallWithThePowerOff(t *testing.T) {
	d := darkDisk(t)
	for _, at := range []int{0, 2, 3, -1, math.MaxInt} {
		checkRead(t, d, at, nil, api.ErrDiskOff)
		for _, data := range [][]byte{nil, named('X'), make([]byte, 511), make([]byte, 513)} {
			checkWrite(t, d, at, data, api.ErrDiskOff)
		}
	}
	checkFlush(t, d, api.ErrDiskOff)
	for _, n := range []int{-2, -1, 0, 1, math.MinInt} {
		checkFuse(t, d, n, api.ErrDiskOff)
	}
	checkOn(t, d, false)
	checkBlocks(t, d, 3, api.OK)
	checkPending(t, d, 2)
	checkImage(t, d, imageOf("AB0"))
	checkCrash(t, d, nil, imageOf("AB0"), api.OK)
	checkCrash(t, d, []int{0}, imageOf("ABD"), api.OK)
	checkCrash(t, d, []int{1}, nil, api.ErrDiskKeep)
	checkCrash(t, d, []int{0, 0}, nil, api.ErrDiskKeep)
}

func TestR6TheWriteInWhichThePowerGoes(t *testing.T) {
	d := openDisk(t, imageOf("AB0"))
	checkFuse(t, d, 1, api.OK)
	checkWrite(t, d, 0, named('C'), api.OK)
	checkWrite(t, d, 1, named('D'), api.ErrDiskOff)
	checkOn(t, d, false)
	checkState(t, d, imageOf("AB0"), api.Put{At: 0, Data: named('C')})
}

// roomy gives the items in a list with marked room behind them, and all of that list as it was.
func roomy[T any](items []T, mark T) ([]T, []T) {
	all := slices.Clone(items)
	for range 600 {
		all = append(all, mark)
	}
	return all[:len(items)], slices.Clone(all)
}

func checkUntouched[T comparable](t *testing.T, what string, list []T, was []T) {
	t.Helper()
	if !slices.Equal(list[:len(was)], was) {
		t.Errorf("%s: what was handed in is changed, or the room behind it", what)
	}
}

// spoil writes into all of a list, the room behind it too.
func spoil[T any](list []T, with T) {
	list = list[:cap(list)]
	for i := range list {
		list[i] = with
	}
}

func TestR4OpenChangesAndKeepsNothing(t *testing.T) {
	image, was := roomy(imageOf("AB0"), 0xaa)
	d := openDisk(t, image)
	checkWrite(t, d, 0, named('C'), api.OK)
	checkWrite(t, d, 2, named('D'), api.OK)
	checkFlush(t, d, api.OK)
	checkUntouched(t, "Open", image, was)
	spoil(image, 0xee)
	checkState(t, d, imageOf("CBD"))
	short, was := roomy(make([]byte, 511), 0xaa)
	checkOpenRefused(t, short)
	checkUntouched(t, "a refused Open", short, was)
}

func TestR4WriteChangesAndKeepsNothing(t *testing.T) {
	d := newDisk(t, 2)
	data, was := roomy(named('A'), 0xaa)
	checkWrite(t, d, 0, data, api.OK)
	checkUntouched(t, "Write", data, was)
	spoil(data, 0xee)
	checkState(t, d, imageOf("00"), api.Put{At: 0, Data: named('A')})
	data, was = roomy(named('B'), 0xaa)
	checkWrite(t, d, 0, data, api.OK)
	checkFlush(t, d, api.OK)
	checkWrite(t, d, 0, named('C'), api.OK)
	checkFlush(t, d, api.OK)
	checkUntouched(t, "Write and Flush", data, was)
	spoil(data, 0xee)
	checkState(t, d, imageOf("C0"))
	checkFuse(t, d, 0, api.OK)
	for _, size := range []int{511, 513, 512} {
		data, was := roomy(make([]byte, size), 0xaa)
		d.Write(0, data)
		checkUntouched(t, "a refused Write", data, was)
	}
}

func TestR4CrashChangesAndKeepsNothing(t *testing.T) {
	d := newDisk(t, 2)
	checkWrite(t, d, 0, named('A'), api.OK)
	checkWrite(t, d, 1, named('B'), api.OK)
	keep, was := roomy([]int{0, 1}, 55)
	first, _ := d.Crash(keep)
	checkUntouched(t, "Crash", keep, was)
	second, _ := d.Crash(keep)
	spoil(first, 0xee)
	spoil(keep, 7)
	if !bytes.Equal(second, imageOf("AB")) {
		t.Errorf("Crash: the second answer was changed through the first")
	}
	checkState(t, d, imageOf("00"), api.Put{At: 0, Data: named('A')}, api.Put{At: 1, Data: named('B')})
	for _, wrong := range [][]int{{1, 0}, {0, 0}, {2}, {-1}} {
		keep, was := roomy(wrong, 55)
		d.Crash(keep)
		checkUntouched(t, "a refused Crash", keep, was)
	}
}

func TestR4ReadGivesNewMemory(t *testing.T) {
	d := openDisk(t, imageOf("AB0"))
	checkWrite(t, d, 1, named('C'), api.OK)
	for at, name := range []byte{'A', 'C', 0} {
		first, _ := d.Read(at)
		second, _ := d.Read(at)
		spoil(first, 0xee)
		_ = append(first, 0xee, 0xee)
		if !bytes.Equal(second, named(name)) {
			t.Errorf("Read(%d): the second answer was changed through the first", at)
		}
		spoil(second, 0xee)
	}
	checkState(t, d, imageOf("AB0"), api.Put{At: 1, Data: named('C')})
	third, _ := d.Read(1)
	checkFlush(t, d, api.OK)
	checkWrite(t, d, 1, named('D'), api.OK)
	checkFlush(t, d, api.OK)
	if !bytes.Equal(third, named('C')) {
		t.Errorf("Read: an answer was changed by later writes")
	}
}

func TestR4ImageAndPendingGiveNewMemory(t *testing.T) {
	d := openDisk(t, imageOf("AB0"))
	checkWrite(t, d, 1, named('C'), api.OK)
	checkWrite(t, d, 2, named('D'), api.OK)
	image, _ := d.Image()
	again, _ := d.Image()
	blocks, _ := d.Pending()
	blocksAgain, _ := d.Pending()
	none, _ := d.Crash(nil)
	spoil(image, 0xee)
	spoil(blocks, 9)
	spoil(none, 0xee)
	if !bytes.Equal(again, imageOf("AB0")) || !slices.Equal(blocksAgain, []int{1, 2}) {
		t.Errorf("a later answer was changed through an earlier one: %v", blocksAgain)
	}
	checkState(t, d, imageOf("AB0"), api.Put{At: 1, Data: named('C')}, api.Put{At: 2, Data: named('D')})
	checkWrite(t, d, 0, named('E'), api.OK)
	checkFlush(t, d, api.OK)
	if !bytes.Equal(again, imageOf("AB0")) || !slices.Equal(blocksAgain, []int{1, 2}) {
		t.Errorf("an answer was changed by later calls: %v", blocksAgain)
	}
}
