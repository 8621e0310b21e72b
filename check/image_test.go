package check_test

import (
	"bytes"
	"fmt"
	"slices"
	"testing"

	"cistern/api"
	"cistern/check"
	"cistern/disk"
	"cistern/pool"
)

// checkImage holds that CheckImage tells of an image what Check tells of the pool on it, or why there is none; and that the image
// stays as it is. It tells the answer.
func checkImage(t *testing.T, what string, image []byte) ([]api.Problem, api.Errno) {
	t.Helper()
	want, wantE := asked(t, image)
	// Behind its end there is room that is not CheckImage's either.
	roomy := append(bytes.Clone(image), full(77)...)
	before := bytes.Clone(roomy)
	got, e := check.CheckImage(roomy[:len(image)])
	if !slices.Equal(got, want) || e != wantE {
		t.Errorf("%s: CheckImage = %v, %d; want %v, %d", what, got, e, want, wantE)
	}
	if !bytes.Equal(roomy, before) {
		t.Errorf("%s: CheckImage has changed the image", what)
	}
	return got, e
}

// asked gives what Check tells of the pool on an image, or why there is none.
func asked(t *testing.T, image []byte) ([]api.Problem, api.Errno) {
	t.Helper()
	d, e := disk.Open(image)
	if e != api.OK {
		return nil, api.ErrCheckImage
	}
	p, e := pool.Open(d)
	if e != api.OK {
		return nil, e
	}
	return check.Check(p)
}

func TestP14_2BytesThatAreNoDisk(t *testing.T) {
	for _, size := range []int{0, 1, 511, 513, 1023, 400*512 - 1, 400*512 + 1} {
		refuseImage(t, make([]byte, size), api.ErrCheckImage)
		refuseImage(t, noise(size, 5), api.ErrCheckImage)
	}
	image := used(t).image()
	refuseImage(t, image[1:], api.ErrCheckImage)
	refuseImage(t, image[:len(image)-1], api.ErrCheckImage)
	if got, e := check.CheckImage(make([]byte, (api.MaxBlocks+1)*512)); len(got) != 0 || e != api.ErrCheckImage {
		t.Errorf("CheckImage of a block too many = %v, %d", got, e)
	}
}

func TestP14_2ImagesWithoutAPool(t *testing.T) {
	for _, blocks := range []int{1, 2, 256, 300, 1000} {
		refuseImage(t, make([]byte, blocks*512), api.ErrPoolNone)
		refuseImage(t, noise(blocks*512, 7), api.ErrPoolNone)
		refuseImage(t, bytes.Repeat([]byte{255}, blocks*512), api.ErrPoolNone)
	}
	// The disk has another number of blocks than the one on which the pool was formatted.
	image := used(t).image()
	refuseImage(t, append(bytes.Clone(image), full(0)...), api.ErrPoolSize)
	refuseImage(t, image[:len(image)-512], api.ErrPoolSize)
}

// A pool without problems and with some, as it is seen and as it lasts.
func TestP14_2ImagesWithAPool(t *testing.T) {
	b := used(t)
	b.p.Sync()
	if got, e := checkImage(t, "a used pool", b.crashed(nil)); len(got) != 0 || e != api.OK {
		t.Errorf("a used pool: CheckImage = %v, %d", got, e)
	}
	leak := b.alloc()
	b.setSize("o", 1)
	want := []api.Problem{counted(leak, 1, 0), {Kind: api.ProblemSize, Where: 5, Found: 70, Wanted: 1}}
	if got, e := checkImage(t, "what does not last", b.crashed(nil)); len(got) != 0 || e != api.OK {
		t.Errorf("what does not last: CheckImage = %v, %d", got, e)
	}
	if got, e := checkImage(t, "what is seen", b.image()); !slices.Equal(got, want) || e != api.OK {
		t.Errorf("what is seen: CheckImage = %v, %d; want %v", got, e, want)
	}
	b.p.Sync()
	for range 2 {
		if got, e := checkImage(t, "what lasts", b.crashed(nil)); !slices.Equal(got, want) || e != api.OK {
			t.Errorf("what lasts: CheckImage = %v, %d; want %v", got, e, want)
		}
	}
	// The pool of which the image was made has nothing to do with it: it is open, in a transaction, off.
	x := b.begin()
	checkImage(t, "with a transaction", b.image())
	x.Abort()
	b.darken()
	checkImage(t, "with the power off", b.image())
	if got, e := checkImage(t, "an empty pool", made(t, 1, 0).image()); len(got) != 0 || e != api.OK {
		t.Errorf("an empty pool: CheckImage = %v, %d", got, e)
	}
}

// Bytes are turned, one and many, in each block that is not zeros: the call ends, and tells what Check tells.
func TestP14_2ImagesWithBytesTurned(t *testing.T) {
	b := used(t)
	b.p.Sync()
	whole := b.image()
	met := map[string]int{}
	for block := range len(whole) / 512 {
		if bytes.Equal(whole[block*512:(block+1)*512], full(0)) {
			continue
		}
		for i, r := range noise(5, uint32(block)) {
			image := bytes.Clone(whole)
			for _, at := range noise(1+i*i, uint32(r)) {
				image[block*512+int(at)+256*(i%2)] ^= 1 << (r % 8)
			}
			got, e := checkImage(t, fmt.Sprintf("bytes of block %d turned", block), image)
			met[fmt.Sprint(len(got) > 0, int(e))]++
		}
	}
	for _, answer := range []string{"false 0", "true 0", "false 92"} {
		if met[answer] == 0 {
			t.Errorf("the answers were %v: too few for a test", met)
		}
	}
}

// Blocks change places, or are gone, or the whole image is.
func TestP14_2ImagesWithBlocksMoved(t *testing.T) {
	b := used(t)
	b.p.Sync()
	whole := b.image()
	blocks := len(whole) / 512
	at := func(image []byte, n int) []byte { return image[n*512 : (n+1)*512] }
	for _, r := range noise(60, 31) {
		image := bytes.Clone(whole)
		one, other := int(r)%blocks, (int(r)*7+blocks/2)%blocks
		copy(at(image, one), at(whole, other))
		copy(at(image, other), at(whole, one))
		checkImage(t, fmt.Sprintf("blocks %d and %d changed", one, other), image)
		for n := int(r) % 9; n < blocks; n += 9 {
			copy(at(image, n), full(0))
		}
		checkImage(t, "every ninth block gone", image)
	}
}
