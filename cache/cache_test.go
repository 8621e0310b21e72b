package cache_test

import (
	"bytes"
	"math"
	"slices"
	"testing"

	"cistern/api"
	"cistern/cache"
	"cistern/disk"
)

// full gives a block that is one byte all through.
func full(name byte) []byte { return bytes.Repeat([]byte{name}, 512) }

// noise gives bytes that look like chance and are the same in each run.
func noise(size int, seed uint32) []byte {
	out := make([]byte, size)
	for i := range out {
		seed = seed*1664525 + 1013904223
		out[i] = byte(seed >> 24)
	}
	return out
}

func newDisk(t *testing.T, blocks int) *disk.Disk {
	t.Helper()
	d, e := disk.New(blocks)
	if d == nil || e != api.OK {
		t.Fatalf("disk.New(%d): %v, %d", blocks, d, e)
	}
	return d
}

func openDisk(t *testing.T, image []byte) *disk.Disk {
	t.Helper()
	d, e := disk.Open(image)
	if d == nil || e != api.OK {
		t.Fatalf("disk.Open(%d bytes): %v, %d", len(image), d, e)
	}
	return d
}

func newCache(t *testing.T, d *disk.Disk, room int) *cache.Cache {
	t.Helper()
	c, e := cache.New(d, room)
	if c == nil || e != api.OK {
		t.Fatalf("New(d, %d) = a cache: %v, %d", room, c != nil, e)
	}
	return c
}

// made gives a disk of 9 blocks of zeros and a cache on it.
func made(t *testing.T, room int) (*disk.Disk, *cache.Cache) {
	t.Helper()
	d := newDisk(t, 9)
	return d, newCache(t, d, room)
}

// darken turns the power of a disk off.
func darken(t *testing.T, d *disk.Disk) {
	t.Helper()
	if e := d.Fuse(0); e != api.OK {
		t.Fatalf("Fuse(0) = %d", e)
	}
	if e := d.Flush(); e != api.ErrDiskOff || d.On() {
		t.Fatalf("Flush() with the fuse at 0 = %d, on: %v", e, d.On())
	}
}

func checkNewRefused(t *testing.T, d *disk.Disk, room int, wantErr api.Errno) {
	t.Helper()
	if c, e := cache.New(d, room); c != nil || e != wantErr {
		t.Errorf("New(a disk: %v, %d) = a cache: %v, %d; want none, %d", d != nil, room, c != nil, e, wantErr)
	}
}

// reader is what reads a block: a cache, or the disk itself.
type reader interface {
	Read(at int) ([]byte, api.Errno)
}

func checkRead(t *testing.T, r reader, at int, want []byte, wantErr api.Errno) {
	t.Helper()
	if got, e := r.Read(at); !bytes.Equal(got, want) || e != wantErr {
		t.Errorf("Read(%d) = %d bytes, error %d, as wanted: %v; want error %d", at, len(got), e, bytes.Equal(got, want), wantErr)
	}
}

func checkWrite(t *testing.T, c *cache.Cache, at int, data []byte, wantErr api.Errno) {
	t.Helper()
	if e := c.Write(at, data); e != wantErr {
		t.Errorf("Write(%d, %d bytes) = %d; want %d", at, len(data), e, wantErr)
	}
}

// checkPast writes the disk itself.
func checkPast(t *testing.T, d *disk.Disk, at int, data []byte) {
	t.Helper()
	if e := d.Write(at, data); e != api.OK {
		t.Errorf("the disk's Write(%d, %d bytes) = %d", at, len(data), e)
	}
}

func checkFlush(t *testing.T, c *cache.Cache, wantErr api.Errno) {
	t.Helper()
	if e := c.Flush(); e != wantErr {
		t.Errorf("Flush() = %d; want %d", e, wantErr)
	}
}

func checkFuse(t *testing.T, c *cache.Cache, n int, wantErr api.Errno) {
	t.Helper()
	if e := c.Fuse(n); e != wantErr {
		t.Errorf("Fuse(%d) = %d; want %d", n, e, wantErr)
	}
}

func checkOn(t *testing.T, d *disk.Disk, want bool) {
	t.Helper()
	if got := d.On(); got != want {
		t.Errorf("On() = %v; want %v", got, want)
	}
}

func checkHeld(t *testing.T, c *cache.Cache, want ...int) {
	t.Helper()
	if got, e := c.Held(); !slices.Equal(got, want) || e != api.OK {
		t.Errorf("Held() = %v, %d; want %v", got, e, want)
	}
}

func checkCounts(t *testing.T, c *cache.Cache, hits int, misses int) {
	t.Helper()
	if h, m, e := c.Counts(); h != hits || m != misses || e != api.OK {
		t.Errorf("Counts() = %d, %d, %d; want %d, %d", h, m, e, hits, misses)
	}
}

func checkForget(t *testing.T, c *cache.Cache) {
	t.Helper()
	if e := c.Forget(); e != api.OK {
		t.Errorf("Forget() = %d", e)
	}
}

func checkPending(t *testing.T, d *disk.Disk, want ...int) {
	t.Helper()
	if got, e := d.Pending(); !slices.Equal(got, want) || e != api.OK {
		t.Errorf("Pending() = %v, %d; want %v", got, e, want)
	}
}

func checkImage(t *testing.T, d *disk.Disk, want []byte) {
	t.Helper()
	if got, e := d.Image(); !bytes.Equal(got, want) || e != api.OK {
		t.Errorf("Image() = %d bytes, error %d, as wanted: %v", len(got), e, bytes.Equal(got, want))
	}
}

func TestP3ExamplesInTheirOrder(t *testing.T) {
	d, c := made(t, 2)
	a, b := full('A'), full('B')
	checkNewRefused(t, nil, 0, api.ErrNil)
	checkNewRefused(t, d, 0, api.ErrCacheRoom)
	checkNewRefused(t, d, 4097, api.ErrCacheRoom)
	checkRead(t, c, 3, full(0), api.OK)
	checkRead(t, c, 3, full(0), api.OK)
	checkCounts(t, c, 1, 1)
	checkHeld(t, c, 3)
	checkWrite(t, c, 5, a, api.OK)
	checkRead(t, c, 5, a, api.OK)
	checkHeld(t, c, 3, 5)
	checkCounts(t, c, 2, 1)
	checkRead(t, c, 3, full(0), api.OK)
	checkWrite(t, c, 7, b, api.OK)
	checkHeld(t, c, 3, 7)
	checkRead(t, c, 5, a, api.OK)
	checkHeld(t, c, 7, 5)
	checkCounts(t, c, 3, 2)
	checkRead(t, c, 9, nil, api.ErrDiskAt)
	checkWrite(t, c, 7, make([]byte, 511), api.ErrDiskData)
	checkHeld(t, c, 7, 5)
	checkPast(t, d, 7, a)
	checkRead(t, c, 7, b, api.OK)
	checkForget(t, c)
	checkRead(t, c, 7, a, api.OK)
	checkCounts(t, c, 4, 3)
	if e := d.Fuse(0); e != api.OK {
		t.Errorf("d.Fuse(0) = %d", e)
	}
	checkWrite(t, c, 7, b, api.ErrDiskOff)
	checkRead(t, c, 7, nil, api.ErrDiskOff)
	checkHeld(t, c, 7)
}

func TestP3_1NewRefuses(t *testing.T) {
	d := newDisk(t, 1)
	for _, room := range []int{0, -1, -4096, math.MinInt, 4097, 1 << 19, 1 << 32, math.MaxInt} {
		checkNewRefused(t, nil, room, api.ErrNil)
		checkNewRefused(t, d, room, api.ErrCacheRoom)
	}
	for _, room := range []int{1, 2, 4096} {
		checkNewRefused(t, nil, room, api.ErrNil)
	}
}

func TestP3_1NewHoldsNothing(t *testing.T) {
	for _, room := range []int{1, 2, 3, 4095, 4096} {
		d, c := made(t, room)
		checkHeld(t, c)
		checkCounts(t, c, 0, 0)
		checkPending(t, d)
		checkOn(t, d, true)
	}
}

// New asks nothing of the disk, so a disk whose power is off has caches like any other.
func TestP3_1NewWithThePowerOff(t *testing.T) {
	d := newDisk(t, 2)
	darken(t, d)
	checkNewRefused(t, d, 0, api.ErrCacheRoom)
	checkNewRefused(t, d, 4097, api.ErrCacheRoom)
	c := newCache(t, d, 1)
	checkHeld(t, c)
	checkCounts(t, c, 0, 0)
	checkRead(t, c, 0, nil, api.ErrDiskOff)
}

func TestP3_1TheMostRoom(t *testing.T) {
	d := newDisk(t, 5000)
	c := newCache(t, d, 4096)
	var want []int
	for at := range 4096 {
		checkRead(t, c, at, full(0), api.OK)
		want = append(want, at)
	}
	checkHeld(t, c, want...)
	checkCounts(t, c, 0, 4096)
	for at := range 4096 {
		checkRead(t, c, at, full(0), api.OK)
	}
	checkHeld(t, c, want...)
	checkCounts(t, c, 4096, 4096)
	checkWrite(t, c, 4999, full('A'), api.OK)
	checkHeld(t, c, append(want[1:], 4999)...)
	checkRead(t, c, 1, full(0), api.OK)
	checkCounts(t, c, 4097, 4096)
	checkRead(t, c, 0, full(0), api.OK)
	checkCounts(t, c, 4097, 4097)
}

func TestP3_2ReadCountsHitsAndMisses(t *testing.T) {
	image := noise(512*4, 3)
	c := newCache(t, openDisk(t, image), 3)
	for at := range 3 {
		checkRead(t, c, at, image[512*at:512*at+512], api.OK)
		checkCounts(t, c, 0, at+1)
	}
	checkHeld(t, c, 0, 1, 2)
	for round := range 5 {
		checkRead(t, c, 1, image[512:1024], api.OK)
		checkCounts(t, c, round+1, 3)
		checkHeld(t, c, 0, 2, 1)
	}
	checkRead(t, c, 3, image[1536:], api.OK)
	checkCounts(t, c, 5, 4)
	checkHeld(t, c, 2, 1, 3)
	checkRead(t, c, 0, image[:512], api.OK)
	checkCounts(t, c, 5, 5)
	checkHeld(t, c, 1, 3, 0)
}

func TestP3_2RoomOne(t *testing.T) {
	d, c := made(t, 1)
	for round := range 6 {
		checkRead(t, c, 4, full(0), api.OK)
		checkHeld(t, c, 4)
		checkCounts(t, c, round, 1)
	}
	checkWrite(t, c, 4, full('A'), api.OK)
	checkHeld(t, c, 4)
	checkCounts(t, c, 5, 1)
	checkRead(t, c, 4, full('A'), api.OK)
	checkCounts(t, c, 6, 1)
	checkRead(t, c, 5, full(0), api.OK)
	checkHeld(t, c, 5)
	checkRead(t, c, 4, full('A'), api.OK)
	checkHeld(t, c, 4)
	checkCounts(t, c, 6, 3)
	checkWrite(t, c, 8, full('B'), api.OK)
	checkHeld(t, c, 8)
	checkWrite(t, c, 8, full('C'), api.OK)
	checkHeld(t, c, 8)
	checkRead(t, c, 8, full('C'), api.OK)
	checkRead(t, d, 4, full('A'), api.OK)
	checkCounts(t, c, 7, 3)
}

// Which block goes hangs on its last use, by Read or by Write, and on nothing else.
func TestP3_2WhoBecomesTheLatestAndWhoGoes(t *testing.T) {
	for used := range 4 {
		for _, writes := range []bool{false, true} {
			_, c := made(t, 4)
			var want []int
			for at := range 4 {
				checkRead(t, c, at, full(0), api.OK)
				if at != used {
					want = append(want, at)
				}
			}
			checkHeld(t, c, 0, 1, 2, 3)
			if writes {
				checkWrite(t, c, used, full('A'), api.OK)
			} else {
				checkRead(t, c, used, full(0), api.OK)
			}
			want = append(want, used)
			checkHeld(t, c, want...)
			for next := 4; next < 8; next++ {
				checkRead(t, c, next, full(0), api.OK)
				want = append(want[1:], next)
				checkHeld(t, c, want...)
			}
		}
	}
}

func TestP3_2ARefusedReadChangesNothing(t *testing.T) {
	d, c := made(t, 2)
	checkRead(t, c, 0, full(0), api.OK)
	checkWrite(t, c, 8, full('A'), api.OK)
	checkRead(t, c, 0, full(0), api.OK)
	for _, at := range []int{9, 10, -1, math.MinInt, math.MaxInt, 1 << 32, 1 << 55} {
		checkRead(t, c, at, nil, api.ErrDiskAt)
		checkHeld(t, c, 8, 0)
		checkCounts(t, c, 1, 1)
	}
	checkRead(t, c, 8, full('A'), api.OK)
	checkPending(t, d, 8)
	checkOn(t, d, true)
}

func TestP3_2HeldBlocksWithThePowerOff(t *testing.T) {
	d, c := made(t, 2)
	checkRead(t, c, 0, full(0), api.OK)
	checkWrite(t, c, 8, full('A'), api.OK)
	checkRead(t, c, 8, full('A'), api.OK)
	darken(t, d)
	for _, at := range []int{0, 8, 1, 9, -1, math.MinInt, math.MaxInt} {
		checkRead(t, c, at, nil, api.ErrDiskOff)
		checkHeld(t, c, 0, 8)
		checkCounts(t, c, 1, 1)
	}
}

func TestP3_2ReadsBurnNoFuseAndWriteNothing(t *testing.T) {
	d, c := made(t, 2)
	checkFuse(t, c, 0, api.OK)
	for round := range 30 {
		checkRead(t, c, round%3, full(0), api.OK)
		checkRead(t, c, round%3, full(0), api.OK)
		checkRead(t, c, 9, nil, api.ErrDiskAt)
	}
	checkCounts(t, c, 30, 30)
	checkOn(t, d, true)
	checkPending(t, d)
	checkWrite(t, c, 0, full('A'), api.ErrDiskOff)
}

func TestP3_3WriteGoesThroughOnce(t *testing.T) {
	d, c := made(t, 2)
	checkWrite(t, c, 3, full('A'), api.OK)
	checkPending(t, d, 3)
	checkRead(t, d, 3, full('A'), api.OK)
	checkWrite(t, c, 3, full('B'), api.OK)
	checkPending(t, d, 3, 3)
	checkRead(t, d, 3, full('B'), api.OK)
	// The same bytes once more are a write like any other.
	checkWrite(t, c, 3, full('B'), api.OK)
	checkPending(t, d, 3, 3, 3)
	checkImage(t, d, make([]byte, 9*512))
	checkFuse(t, c, 2, api.OK)
	checkWrite(t, c, 4, full('C'), api.OK)
	checkWrite(t, c, 3, full('D'), api.OK)
	checkOn(t, d, true)
	checkWrite(t, c, 4, full('E'), api.ErrDiskOff)
	checkOn(t, d, false)
	checkPending(t, d, 3, 3, 3, 4, 3)
}

func TestP3_3WriteIsNeitherHitNorMiss(t *testing.T) {
	_, c := made(t, 2)
	for at := range 5 {
		checkWrite(t, c, at, full('A'), api.OK)
		checkWrite(t, c, at, full('B'), api.OK)
	}
	checkCounts(t, c, 0, 0)
	checkHeld(t, c, 3, 4)
	checkRead(t, c, 3, full('B'), api.OK)
	checkWrite(t, c, 3, full('C'), api.OK)
	checkCounts(t, c, 1, 0)
	checkRead(t, c, 0, full('B'), api.OK)
	checkWrite(t, c, 0, full('C'), api.OK)
	checkCounts(t, c, 1, 1)
}

func TestP3_3AHeldBlockIsWritten(t *testing.T) {
	_, c := made(t, 3)
	checkRead(t, c, 1, full(0), api.OK)
	checkRead(t, c, 2, full(0), api.OK)
	checkWrite(t, c, 1, full('A'), api.OK)
	checkHeld(t, c, 2, 1)
	checkRead(t, c, 1, full('A'), api.OK)
	checkWrite(t, c, 2, noise(512, 5), api.OK)
	checkHeld(t, c, 1, 2)
	checkRead(t, c, 2, noise(512, 5), api.OK)
	checkWrite(t, c, 2, full(0), api.OK)
	checkRead(t, c, 2, full(0), api.OK)
	checkCounts(t, c, 3, 2)
}

func TestP3_3ARefusedWriteChangesNothing(t *testing.T) {
	d, c := made(t, 2)
	checkRead(t, c, 0, full(0), api.OK)
	checkWrite(t, c, 8, full('A'), api.OK)
	for _, at := range []int{9, -1, math.MinInt, math.MaxInt, 1 << 32} {
		for _, data := range [][]byte{full('B'), nil, make([]byte, 511), make([]byte, 513)} {
			checkWrite(t, c, at, data, api.ErrDiskAt)
		}
	}
	for _, at := range []int{0, 8, 1} {
		for _, size := range []int{0, 1, 511, 513, 1024} {
			checkWrite(t, c, at, make([]byte, size), api.ErrDiskData)
		}
		checkWrite(t, c, at, nil, api.ErrDiskData)
	}
	checkHeld(t, c, 0, 8)
	checkCounts(t, c, 0, 1)
	checkPending(t, d, 8)
	checkRead(t, c, 0, full(0), api.OK)
	checkRead(t, c, 8, full('A'), api.OK)
}

func TestP3_3WriteErrorsInOrder(t *testing.T) {
	d, c := made(t, 2)
	checkWrite(t, c, 0, full('A'), api.OK)
	checkFuse(t, c, 0, api.OK)
	checkWrite(t, c, 9, make([]byte, 511), api.ErrDiskAt)
	checkWrite(t, c, 0, make([]byte, 511), api.ErrDiskData)
	checkOn(t, d, true)
	checkWrite(t, c, 0, full('B'), api.ErrDiskOff)
	checkOn(t, d, false)
	checkWrite(t, c, 9, make([]byte, 511), api.ErrDiskOff)
	checkWrite(t, c, 0, make([]byte, 511), api.ErrDiskOff)
	checkWrite(t, c, 0, full('B'), api.ErrDiskOff)
	checkHeld(t, c, 0)
	checkCounts(t, c, 0, 0)
	checkPending(t, d, 0)
}

func TestP3_4FlushIsTheDisksAndWhatIsHeldStays(t *testing.T) {
	d, c := made(t, 3)
	checkRead(t, c, 1, full(0), api.OK)
	checkWrite(t, c, 0, full('A'), api.OK)
	checkWrite(t, c, 2, full('B'), api.OK)
	checkRead(t, c, 1, full(0), api.OK)
	checkFlush(t, c, api.OK)
	checkPending(t, d)
	want := make([]byte, 9*512)
	copy(want, full('A'))
	copy(want[1024:], full('B'))
	checkImage(t, d, want)
	checkHeld(t, c, 0, 2, 1)
	checkCounts(t, c, 1, 1)
	checkRead(t, c, 0, full('A'), api.OK)
	checkCounts(t, c, 2, 1)
}

func TestP3_4FlushIsDoneOnce(t *testing.T) {
	d, c := made(t, 3)
	checkWrite(t, c, 0, full('A'), api.OK)
	checkFuse(t, c, 2, api.OK)
	checkFlush(t, c, api.OK)
	checkWrite(t, c, 1, full('B'), api.OK)
	checkOn(t, d, true)
	checkFlush(t, c, api.ErrDiskOff)
	checkOn(t, d, false)
	checkPending(t, d, 1)
	checkFlush(t, c, api.ErrDiskOff)
	checkHeld(t, c, 0, 1)
	checkCounts(t, c, 0, 0)
}

func TestP3_5HeldChangesNoOrder(t *testing.T) {
	d, c := made(t, 3)
	for _, at := range []int{7, 2, 5} {
		checkWrite(t, c, at, full(byte(at)), api.OK)
	}
	for range 5 {
		checkHeld(t, c, 7, 2, 5)
		checkCounts(t, c, 0, 0)
	}
	checkPending(t, d, 7, 2, 5)
	checkRead(t, c, 2, full(2), api.OK)
	checkHeld(t, c, 7, 5, 2)
}

func TestP3_7ForgetHoldsNothingAndKeepsTheCounts(t *testing.T) {
	d, c := made(t, 2)
	checkForget(t, c)
	checkHeld(t, c)
	checkWrite(t, c, 1, full('A'), api.OK)
	checkRead(t, c, 1, full('A'), api.OK)
	checkRead(t, c, 2, full(0), api.OK)
	checkForget(t, c)
	checkHeld(t, c)
	checkCounts(t, c, 1, 1)
	checkForget(t, c)
	checkCounts(t, c, 1, 1)
	checkPending(t, d, 1)
	checkRead(t, c, 1, full('A'), api.OK)
	checkHeld(t, c, 1)
	checkCounts(t, c, 1, 2)
	// The room is as before.
	checkRead(t, c, 2, full(0), api.OK)
	checkRead(t, c, 3, full(0), api.OK)
	checkHeld(t, c, 2, 3)
	checkCounts(t, c, 1, 4)
}

func TestP3_7HeldCountsAndForgetWithThePowerOff(t *testing.T) {
	d, c := made(t, 3)
	checkRead(t, c, 4, full(0), api.OK)
	checkWrite(t, c, 2, full('A'), api.OK)
	checkRead(t, c, 4, full(0), api.OK)
	checkForgetBurnsNothing(t, d)
	darken(t, d)
	for range 2 {
		checkHeld(t, c, 2, 4)
		checkCounts(t, c, 1, 1)
	}
	checkForget(t, c)
	checkHeld(t, c)
	checkCounts(t, c, 1, 1)
	checkForget(t, c)
	checkRead(t, c, 4, nil, api.ErrDiskOff)
	checkCounts(t, c, 1, 1)
}

// checkForgetBurnsNothing holds a second cache of the disk to asking nothing of it.
func checkForgetBurnsNothing(t *testing.T, d *disk.Disk) {
	t.Helper()
	c := newCache(t, d, 2)
	checkRead(t, c, 0, full(0), api.OK)
	checkFuse(t, c, 0, api.OK)
	checkHeld(t, c, 0)
	checkCounts(t, c, 0, 1)
	checkForget(t, c)
	checkOn(t, d, true)
	checkFuse(t, c, -1, api.OK)
}

func TestP3_8TheDiskIsWrittenPastTheCache(t *testing.T) {
	d, c := made(t, 2)
	checkRead(t, c, 1, full(0), api.OK)
	checkWrite(t, c, 2, full('A'), api.OK)
	checkPast(t, d, 1, full('X'))
	checkPast(t, d, 2, full('Y'))
	checkPast(t, d, 3, full('Z'))
	checkHeld(t, c, 1, 2)
	checkCounts(t, c, 0, 1)
	for range 2 {
		checkRead(t, c, 1, full(0), api.OK)
		checkRead(t, c, 2, full('A'), api.OK)
	}
	if e := d.Flush(); e != api.OK {
		t.Errorf("the disk's Flush() = %d", e)
	}
	checkRead(t, c, 1, full(0), api.OK)
	checkRead(t, c, 2, full('A'), api.OK)
	checkFlush(t, c, api.OK)
	checkRead(t, c, 1, full(0), api.OK)
	checkRead(t, d, 1, full('X'), api.OK)
	// A block that was not held is read as the disk has it, and then stays so.
	checkRead(t, c, 3, full('Z'), api.OK)
	checkPast(t, d, 3, full('W'))
	checkRead(t, c, 3, full('Z'), api.OK)
	// Block 2 went, so it is read as the disk has it.
	checkHeld(t, c, 1, 3)
	checkRead(t, c, 2, full('Y'), api.OK)
	checkForget(t, c)
	checkRead(t, c, 1, full('X'), api.OK)
	checkRead(t, c, 3, full('W'), api.OK)
}

func TestP3_8TwoCachesOnOneDisk(t *testing.T) {
	d := newDisk(t, 9)
	one, other := newCache(t, d, 2), newCache(t, d, 3)
	checkRead(t, one, 1, full(0), api.OK)
	checkHeld(t, other)
	checkCounts(t, other, 0, 0)
	checkWrite(t, other, 1, full('A'), api.OK)
	checkHeld(t, one, 1)
	checkRead(t, one, 1, full(0), api.OK)
	checkCounts(t, one, 1, 1)
	checkRead(t, other, 1, full('A'), api.OK)
	checkCounts(t, other, 1, 0)
	checkRead(t, one, 2, full(0), api.OK)
	checkRead(t, one, 3, full(0), api.OK)
	checkHeld(t, one, 2, 3)
	checkHeld(t, other, 1)
	checkForget(t, one)
	checkHeld(t, other, 1)
	checkRead(t, one, 1, full('A'), api.OK)
	checkWrite(t, one, 1, full('B'), api.OK)
	checkRead(t, other, 1, full('A'), api.OK)
	checkPending(t, d, 1, 1)
	checkFlush(t, other, api.OK)
	checkPending(t, d)
	checkFuse(t, one, 0, api.OK)
	checkFlush(t, other, api.ErrDiskOff)
	checkRead(t, one, 1, nil, api.ErrDiskOff)
	checkRead(t, other, 1, nil, api.ErrDiskOff)
	checkHeld(t, one, 1)
	checkHeld(t, other, 1)
	checkCounts(t, one, 1, 4)
	checkCounts(t, other, 2, 0)
}

func TestP3_8TwoCachesOnTwoDisks(t *testing.T) {
	first, one := made(t, 2)
	second, other := made(t, 2)
	checkWrite(t, one, 1, full('A'), api.OK)
	checkRead(t, other, 1, full(0), api.OK)
	checkHeld(t, one, 1)
	darken(t, first)
	checkRead(t, one, 1, nil, api.ErrDiskOff)
	checkRead(t, other, 1, full(0), api.OK)
	checkPending(t, first, 1)
	checkPending(t, second)
}

// model is a cache as the chapter's words have it: a list that is gone through.
type model struct {
	d      *disk.Disk
	room   int
	list   []api.Put
	hits   int
	misses int
}

func (m *model) latest(at int, data []byte) {
	m.list = slices.DeleteFunc(m.list, func(p api.Put) bool { return p.At == at })
	m.list = append(m.list, api.Put{At: at, Data: data})
	if len(m.list) > m.room {
		m.list = m.list[1:]
	}
}

func (m *model) read(at int) ([]byte, api.Errno) {
	data, e := m.d.Read(at)
	if e != api.OK {
		return nil, e
	}
	place := slices.IndexFunc(m.list, func(p api.Put) bool { return p.At == at })
	if place < 0 {
		m.misses++
	} else {
		m.hits++
		data = m.list[place].Data
	}
	m.latest(at, data)
	return data, api.OK
}

func (m *model) write(at int, data []byte) api.Errno {
	e := m.d.Write(at, data)
	if e == api.OK {
		m.latest(at, data)
	}
	return e
}

func (m *model) held() []int {
	var blocks []int
	for _, p := range m.list {
		blocks = append(blocks, p.At)
	}
	return blocks
}

// step does through the cache and through the model what the three numbers say; each has a disk of its own.
func step(t *testing.T, c *cache.Cache, m *model, kind byte, at int, fill byte) {
	t.Helper()
	switch {
	case kind < 125:
		want, e := m.read(at)
		checkRead(t, c, at, want, e)
	case kind < 205:
		data := bytes.Repeat([]byte{fill}, 512)
		checkWrite(t, c, at, data, m.write(at, data))
	case kind < 215:
		data := make([]byte, 510+int(fill%3))
		checkWrite(t, c, at, data, m.write(at, data))
	case kind < 228:
		data := bytes.Repeat([]byte{fill}, 512)
		if e, want := c.Disk.Write(at, data), m.d.Write(at, data); e != want {
			t.Errorf("the disk's Write(%d) = %d; want %d", at, e, want)
		}
	case kind < 240:
		checkFlush(t, c, m.d.Flush())
	case kind < 248:
		n := int(fill)%60 - 3
		checkFuse(t, c, n, m.d.Fuse(n))
	default:
		m.list = nil
		checkForget(t, c)
	}
}

func TestP3_8AnyCallsInAnyOrder(t *testing.T) {
	for seed := range uint32(120) {
		blocks := 2 + int(seed%11)
		room := 1 + int(seed%7)
		image := noise(512*blocks, seed)
		c := newCache(t, openDisk(t, image), room)
		m := &model{d: openDisk(t, image), room: room}
		acts := noise(3*300, seed+900)
		for i := 0; i < len(acts); i += 3 {
			step(t, c, m, acts[i], int(acts[i+1])%(blocks+2)-1, acts[i+2])
			checkHeld(t, c, m.held()...)
			checkCounts(t, c, m.hits, m.misses)
			checkOn(t, c.Disk, m.d.On())
			if t.Failed() {
				t.Fatalf("cache %d, act %d", seed, i/3)
			}
		}
		checkSameDisk(t, c.Disk, m.d)
	}
}

// checkSameDisk holds what lasts and what is pending on one disk against another.
func checkSameDisk(t *testing.T, d *disk.Disk, want *disk.Disk) {
	t.Helper()
	image, _ := want.Image()
	checkImage(t, d, image)
	pending, _ := want.Pending()
	checkPending(t, d, pending...)
	places := make([]int, len(pending))
	for i := range places {
		places[i] = i
	}
	wanted, _ := want.Crash(places)
	if got, e := d.Crash(places); !bytes.Equal(got, wanted) || e != api.OK {
		t.Errorf("Crash of all places: %d bytes, error %d, as wanted: %v", len(got), e, bytes.Equal(got, wanted))
	}
}

func TestP3_9ReadsAsTheDiskDoesWhateverTheRoom(t *testing.T) {
	for _, room := range []int{1, 2, 3, 7, 8, 9, 100, 4096} {
		for seed := range uint32(8) {
			bare := openDisk(t, noise(512*9, seed))
			c := newCache(t, openDisk(t, noise(512*9, seed)), room)
			acts := noise(3*250, seed+70)
			for i := 0; i < len(acts); i += 3 {
				asTheDiskDoes(t, c, bare, acts[i], int(acts[i+1])%11-1, acts[i+2])
			}
			checkSameDisk(t, c.Disk, bare)
			if t.Failed() {
				t.Fatalf("room %d, script %d", room, seed)
			}
		}
	}
}

// asTheDiskDoes asks the same of a cache and of a disk without one.
func asTheDiskDoes(t *testing.T, c *cache.Cache, bare *disk.Disk, kind byte, at int, fill byte) {
	t.Helper()
	switch {
	case kind < 70:
		data := noise(512, uint32(fill))
		checkWrite(t, c, at, data, bare.Write(at, data))
	case kind < 80:
		data := noise(511, uint32(fill))
		checkWrite(t, c, at, data, bare.Write(at, data))
	case kind < 90:
		checkFlush(t, c, bare.Flush())
	case kind < 94:
		checkForget(t, c)
	case kind < 96:
		checkFuse(t, c, int(fill), bare.Fuse(int(fill)))
	}
	want, e := bare.Read(at)
	checkRead(t, c, at, want, e)
	other := int(fill)%11 - 1
	want, e = bare.Read(other)
	checkRead(t, c, other, want, e)
}

func TestP3PromotedCallsAreTheDisksOwn(t *testing.T) {
	d, c := made(t, 2)
	if c.Disk != d {
		t.Errorf("the embedded disk is another")
	}
	checkWrite(t, c, 3, full('A'), api.OK)
	checkPast(t, d, 4, full('B'))
	if n, e := c.Blocks(); n != 9 || e != api.OK {
		t.Errorf("Blocks() = %d, %d", n, e)
	}
	if got, e := c.Pending(); !slices.Equal(got, []int{3, 4}) || e != api.OK {
		t.Errorf("Pending() = %v, %d", got, e)
	}
	if got, e := c.Image(); !bytes.Equal(got, make([]byte, 9*512)) || e != api.OK {
		t.Errorf("Image() = %d bytes, %d", len(got), e)
	}
	want := make([]byte, 9*512)
	copy(want[4*512:], full('B'))
	if got, e := c.Crash([]int{1}); !bytes.Equal(got, want) || e != api.OK {
		t.Errorf("Crash(1) = %d bytes, %d", len(got), e)
	}
	if got, e := c.Crash([]int{2}); len(got) != 0 || e != api.ErrDiskKeep {
		t.Errorf("Crash(2) = %d bytes, %d", len(got), e)
	}
	checkFuse(t, c, -2, api.ErrDiskFuse)
	checkFuse(t, c, 0, api.OK)
	if !c.On() {
		t.Errorf("On() behind Fuse(0) = false")
	}
	if e := d.Flush(); e != api.ErrDiskOff || c.On() {
		t.Errorf("the disk's Flush() = %d, On() = %v", e, c.On())
	}
	checkFuse(t, c, -1, api.ErrDiskOff)
	checkHeld(t, c, 3)
}

func TestR3NilCache(t *testing.T) {
	var c *cache.Cache
	for _, at := range []int{0, -1, math.MaxInt} {
		checkRead(t, c, at, nil, api.ErrNil)
		for _, data := range [][]byte{nil, full('A'), make([]byte, 511)} {
			checkWrite(t, c, at, data, api.ErrNil)
		}
	}
	checkFlush(t, c, api.ErrNil)
	if got, e := c.Held(); len(got) != 0 || e != api.ErrNil {
		t.Errorf("Held() of nil = %v, %d", got, e)
	}
	if hits, misses, e := c.Counts(); hits != 0 || misses != 0 || e != api.ErrNil {
		t.Errorf("Counts() of nil = %d, %d, %d", hits, misses, e)
	}
	if e := c.Forget(); e != api.ErrNil {
		t.Errorf("Forget() of nil = %d", e)
	}
}

// roomy gives the items in a list with marked room behind them, and all of that list as it was.
func roomy[T any](items []T, mark T) ([]T, []T) {
	all := slices.Clone(items)
	for range 600 {
		all = append(all, mark)
	}
	return all[:len(items)], slices.Clone(all)
}

func checkUntouched[T comparable](t *testing.T, what string, list []T, was []T) {
	t.Helper()
	if !slices.Equal(list[:len(was)], was) {
		t.Errorf("%s: what was handed in is changed, or the room behind it", what)
	}
}

// spoil writes into all of a list, the room behind it too.
func spoil[T any](list []T, with T) {
	list = list[:cap(list)]
	for i := range list {
		list[i] = with
	}
}

func TestR4WriteChangesAndKeepsNothing(t *testing.T) {
	d, c := made(t, 2)
	data, was := roomy(full('A'), 0xaa)
	checkWrite(t, c, 1, data, api.OK)
	checkUntouched(t, "Write", data, was)
	spoil(data, 0xee)
	checkRead(t, c, 1, full('A'), api.OK)
	checkRead(t, d, 1, full('A'), api.OK)
	data, was = roomy(full('B'), 0xaa)
	checkWrite(t, c, 1, data, api.OK)
	checkWrite(t, c, 1, full('C'), api.OK)
	checkRead(t, c, 1, full('C'), api.OK)
	checkFlush(t, c, api.OK)
	checkForget(t, c)
	checkUntouched(t, "Write of a block that is held", data, was)
	checkFuse(t, c, 0, api.OK)
	for _, size := range []int{511, 513, 512} {
		data, was := roomy(make([]byte, size), 0xaa)
		c.Write(1, data)
		checkUntouched(t, "a refused Write", data, was)
	}
}

func TestR4ReadGivesNewMemory(t *testing.T) {
	d, c := made(t, 2)
	checkPast(t, d, 1, full('A'))
	miss, _ := c.Read(1)
	hit, _ := c.Read(1)
	again, _ := c.Read(1)
	spoil(miss, 0xee)
	_ = append(miss, 0xee, 0xee)
	if !bytes.Equal(hit, full('A')) || !bytes.Equal(again, full('A')) {
		t.Errorf("Read: a later answer was changed through the first")
	}
	spoil(hit, 0xdd)
	_ = append(hit, 0xdd, 0xdd)
	if !bytes.Equal(again, full('A')) {
		t.Errorf("Read: the third answer was changed through the second")
	}
	checkRead(t, c, 1, full('A'), api.OK)
	checkRead(t, d, 1, full('A'), api.OK)
	checkWrite(t, c, 1, full('B'), api.OK)
	checkForget(t, c)
	if !bytes.Equal(again, full('A')) {
		t.Errorf("Read: an answer was changed by later calls")
	}
	checkRead(t, c, 1, full('B'), api.OK)
}

func TestR4HeldGivesNewMemory(t *testing.T) {
	_, c := made(t, 3)
	for _, at := range []int{4, 2, 6} {
		checkRead(t, c, at, full(0), api.OK)
	}
	first, _ := c.Held()
	second, _ := c.Held()
	spoil(first, 8)
	_ = append(first, 8, 8)
	if !slices.Equal(second, []int{4, 2, 6}) {
		t.Errorf("Held: the second answer was changed through the first: %v", second)
	}
	checkRead(t, c, 4, full(0), api.OK)
	checkRead(t, c, 7, full(0), api.OK)
	checkForget(t, c)
	if !slices.Equal(second, []int{4, 2, 6}) {
		t.Errorf("Held: an answer was changed by later calls: %v", second)
	}
	checkHeld(t, c)
}
