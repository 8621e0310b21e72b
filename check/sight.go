package check

import (
	"cmp"
	"slices"
	"sync"

	"cistern/api"
	"cistern/pool"
	"cistern/txn"
)

// workers is how many look at volumes side by side.
const workers = 4

// sight is what a check sees of a pool, whatever may be wrong with it.
type sight struct {
	pool     *pool.Pool
	t        *txn.Txn
	capacity int
	volumes  []api.Entry
	isWalked []bool  // by the volumes' places: whether the map can be walked
	named    [][]int // by the volumes' places: what the nodes of the map name, a pool block once for each node that names it
}

// errand is a volume on its way to a worker.
type errand struct {
	place int // among the volumes
	tiles []api.Tile
}

// link says that a node names a pool block.
type link struct{ node, block int }

func look(p *pool.Pool, t *txn.Txn) (*sight, api.Errno) {
	capacity, e := p.Space().Size(t)
	if e != api.OK {
		return nil, e
	}
	volumes, e := p.Catalog().List(t)
	if e != api.OK {
		return nil, e
	}
	s := &sight{
		pool:     p,
		t:        t,
		capacity: capacity,
		volumes:  volumes,
		isWalked: make([]bool, len(volumes)),
		named:    make([][]int, len(volumes)),
	}
	if e := s.walkAll(); e != api.OK {
		return nil, e
	}
	return s, api.OK
}

// walkAll walks all maps, and lets workers find what the nodes name.
func (s *sight) walkAll() api.Errno {
	errands := make(chan errand)
	var done sync.WaitGroup
	for range workers {
		done.Add(1)
		go func() {
			defer done.Done()
			for x := range errands {
				s.named[x.place] = namedBy(x.tiles)
			}
		}()
	}
	e := s.send(errands)
	close(errands)
	done.Wait()
	return e
}

// send walks the maps, and sends them. It alone reads: a transaction is not asked by several at a time, and what its cache holds
// shall not hang on how the workers run. What hangs on a node that two volumes reach is sent with one of them.
func (s *sight) send(errands chan<- errand) api.Errno {
	met := make([]bool, s.capacity+1)
	for i, v := range s.volumes {
		tiles, e := s.pool.Map().WalkNew(s.t, v.Root, func(node int) bool { return met[node] })
		switch e {
		case api.OK:
			s.isWalked[i] = true
			meet(met, tiles)
			errands <- errand{place: i, tiles: tiles}
		case api.ErrRadixNode:
			// It is a node that can be none, or a root that the pool does not have. The nodes of this walk are not met: who
			// shares the one that can be none comes to it too.
		default:
			return e
		}
	}
	return api.OK
}

// isBeyond tells whether the pool does not have a root.
func (s *sight) isBeyond(root int) bool { return root > s.capacity }

func meet(met []bool, tiles []api.Tile) {
	for _, tile := range tiles {
		if tile.Level < api.Levels {
			met[tile.Block] = true
		}
	}
}

// namedBy gives what the nodes among the tiles name. The node that names a tile is the last one of the level above it, for a node
// is told ahead of what its entries name.
func namedBy(tiles []api.Tile) []int {
	var last [api.Levels + 1]int
	var links []link
	for _, tile := range tiles {
		if tile.Level > 0 {
			links = append(links, link{node: last[tile.Level-1], block: tile.Block})
		}
		last[tile.Level] = tile.Block
	}
	slices.SortFunc(links, func(a, b link) int {
		return cmp.Or(cmp.Compare(a.node, b.node), cmp.Compare(a.block, b.block))
	})
	var blocks []int
	for _, l := range slices.Compact(links) {
		blocks = append(blocks, l.block)
	}
	return blocks
}

// references tells by pool blocks how many references each has. (The place of none holds how many volumes have no root.)
func (s *sight) references() []int {
	references := make([]int, s.capacity+1)
	for i, v := range s.volumes {
		references[v.Root]++
		for _, block := range s.named[i] {
			references[block]++
		}
	}
	return references
}
