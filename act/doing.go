package act

import "cistern/api"

func (d deed) noNeed() (int, api.Errno) { return 0, api.OK }

func (d deed) needOfWrite() (int, api.Errno) { return d.Map().Need(d.Txn, d.volume.Root, d.From) }

func (d deed) needOfFill() (int, api.Errno) {
	return d.Map().NeedAll(d.Txn, d.volume.Root, d.From, d.To)
}

func (d deed) needOfDiscard() (int, api.Errno) {
	return d.Map().NeedDrop(d.Txn, d.volume.Root, d.From, d.To)
}

func (d deed) needOfResize() (int, api.Errno) {
	return d.Map().NeedDrop(d.Txn, d.volume.Root, d.To, api.MaxSize)
}

func (d deed) create() api.Errno {
	return d.add(api.Entry{Size: d.To, Kind: api.KindVolume})
}

func (d deed) snap() api.Errno { return d.branch(api.KindSnap) }

func (d deed) clone() api.Errno { return d.branch(api.KindVolume) }

// branch makes a volume that begins as Other. The sharing comes first: of all that is done it alone can be refused.
func (d deed) branch(kind int) api.Errno {
	if e := d.Map().Share(d.Txn, d.second.Root); e != api.OK {
		return e
	}
	return d.add(api.Entry{Size: d.second.Size, Origin: d.second.ID, Kind: kind, Root: d.second.Root})
}

// add makes a volume of the name, with a number that is new.
func (d deed) add(v api.Entry) api.Errno {
	id, e := d.Catalog().Take(d.Txn)
	if e != api.OK {
		return e
	}
	v.Name, v.ID, v.Partial = d.Name, id, d.isBuilding
	return d.Catalog().Put(d.Txn, v)
}

func (d deed) resize() api.Errno {
	root, e := d.Map().Drop(d.Txn, d.volume.Root, d.To, api.MaxSize)
	if e != api.OK {
		return e
	}
	return d.turn(d.volume.Name, d.To, root)
}

func (d deed) rename() api.Errno { return d.turn(d.Other, d.volume.Size, d.volume.Root) }

func (d deed) remove() api.Errno {
	if e := d.Map().Release(d.Txn, d.volume.Root); e != api.OK {
		return e
	}
	return d.Catalog().Remove(d.Txn, d.volume.ID)
}

// restore shares first, since that can be refused. A map that both have already is left alone.
func (d deed) restore() api.Errno {
	if d.volume.Root != d.second.Root {
		if e := d.Map().Share(d.Txn, d.second.Root); e != api.OK {
			return e
		}
		if e := d.Map().Release(d.Txn, d.volume.Root); e != api.OK {
			return e
		}
	}
	return d.turn(d.volume.Name, d.second.Size, d.second.Root)
}

func (d deed) write() api.Errno {
	root, block, e := d.Map().Assign(d.Txn, d.volume.Root, d.From)
	if e != api.OK {
		return e
	}
	if e := d.lay(block, d.Data); e != api.OK {
		return e
	}
	return d.turn(d.volume.Name, d.volume.Size, root)
}

func (d deed) discard() api.Errno {
	root, e := d.Map().Drop(d.Txn, d.volume.Root, d.From, d.To)
	if e != api.OK {
		return e
	}
	return d.turn(d.volume.Name, d.volume.Size, root)
}

func (d deed) fill() api.Errno {
	root, blocks, e := d.Map().AssignAll(d.Txn, d.volume.Root, d.From, d.To)
	if e != api.OK {
		return e
	}
	for _, block := range blocks {
		if e := d.lay(block, make([]byte, api.BlockSize)); e != api.OK {
			return e
		}
	}
	return d.turn(d.volume.Name, d.volume.Size, root)
}

func (d deed) extend() api.Errno { return d.Extend(d.Txn, d.To) }

// turn gives the volume another name, size and root. Where they are the same nothing is written: most writes change a
// map in its place.
func (d deed) turn(name string, size int, root int) api.Errno {
	v := d.volume
	v.Name, v.Size, v.Root = name, size, root
	if v == d.volume {
		return api.OK
	}
	return d.Catalog().Put(d.Txn, v)
}

// read gives the logical block From, as the transaction sees it.
func (d deed) read() ([]byte, api.Errno) {
	block, e := d.Map().Find(d.Txn, d.volume.Root, d.From)
	if e != api.OK {
		return nil, e
	}
	if block == 0 {
		return make([]byte, api.BlockSize), api.OK
	}
	at, e := d.Place(block)
	if e != api.OK {
		return nil, e
	}
	return d.Read(at)
}

// lay writes a pool block.
func (d deed) lay(block int, data []byte) api.Errno {
	at, e := d.Place(block)
	if e != api.OK {
		return e
	}
	return d.Write(at, data)
}
