package stream

import "cistern/api"

// What a stream is laid of, and in how many bytes.
const (
	magic      = "CST1"
	textWidth  = 1
	sizeWidth  = 4
	sumWidth   = 4
	countWidth = 4
	kindWidth  = 1
	blockWidth = 4
	runHead    = kindWidth + 2*blockWidth
)

// The kinds of runs.
const (
	kindData = 1
	kindGone = 2
)

// content is what a stream tells.
type content struct {
	name  string
	size  int
	since string // the base's name, none: the stream is whole
	sum   uint32 // the base's
	runs  []run
}

// blocks tells how many blocks of data a stream has.
func (c content) blocks() int {
	count := 0
	for _, r := range c.runs {
		count += r.blocks()
	}
	return count
}

// run is logical blocks, one behind the other, of which a stream tells the same: data or gone.
type run interface {
	// blocks tells how many blocks of data it has.
	blocks() int
	// write writes it down.
	write(s *scribe) api.Errno
	// lay does what it says with a volume that is being made.
	lay(m making) api.Errno
}

// dataRun is a run whose blocks the stream has.
type dataRun struct {
	api.Range
	source
}

// goneRun is a run of what the base has mapped, and the volume has not.
type goneRun struct{ api.Range }

// source is where the blocks of a run come from.
type source interface {
	// block gives one of them, by its place in the run.
	block(place int) ([]byte, api.Errno)
}

// held is the blocks of a run that stand in a stream, one behind the other.
type held []byte

// stored is those that stand in a pool.
type stored struct {
	sight
	pairs []api.Pair
}

func (h held) block(place int) ([]byte, api.Errno) {
	return h[place*api.BlockSize : (place+1)*api.BlockSize], api.OK
}

func (s stored) block(place int) ([]byte, api.Errno) { return s.read(s.pairs[place].Block) }

func (d dataRun) blocks() int { return d.To - d.From }

func (g goneRun) blocks() int { return 0 }

func (d dataRun) write(s *scribe) api.Errno {
	s.bounds(kindData, d.Range)
	for place := range d.blocks() {
		block, e := d.block(place)
		if e != api.OK {
			return e
		}
		s.bytes(block)
	}
	return api.OK
}

func (g goneRun) write(s *scribe) api.Errno {
	s.bounds(kindGone, g.Range)
	return api.OK
}

func (d dataRun) lay(m making) api.Errno {
	for place := range d.blocks() {
		block, e := d.block(place)
		if e != api.OK {
			return e
		}
		if e := m.do(api.Op{Kind: api.OpWrite, Name: m.name, From: d.From + place, Data: block}); e != api.OK {
			return e
		}
	}
	return api.OK
}

func (g goneRun) lay(m making) api.Errno {
	return m.do(api.Op{Kind: api.OpDiscard, Name: m.name, From: g.From, To: g.To})
}
