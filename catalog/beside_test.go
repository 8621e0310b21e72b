package catalog_test

import (
	"testing"

	"cistern/api"
	"cistern/catalog"
)

// Two catalogs over the same blocks are one table.
func TestP8_10TwoCatalogsOverOneTable(t *testing.T) {
	b := made(t)
	one, two := b.k, b.open(home)
	for id := 1; id <= 12; id++ {
		b.k = one
		b.checkTake(id, api.OK)
		b.k = two
		b.checkNext(id + 1)
		b.checkPut(volume(id), api.OK)
		b.k = one
		b.checkList(volumes(1, id)...)
		switch id % 4 {
		case 1:
			b.commit()
		case 2:
			m := b.mark()
			b.checkRemove(id, api.OK)
			b.k = two
			b.checkNoFind(volume(id).Name)
			b.back(m)
			b.checkFind(volume(id).Name, volume(id))
		}
	}
	// One that was opened before Format stands over the new table.
	b.format(home)
	b.checkList()
	b.commit()
	b.k = two
	b.checkNext(1)
}

// Two tables beside one another, in one transaction.
func TestP8_10TwoTablesInOneStore(t *testing.T) {
	b := made(t)
	b.format(home + catalog.Blocks())
	b.commit()
	one, two := b.k, b.open(home+catalog.Blocks())
	b.take(9)
	for id := 1; id <= 9; id++ {
		b.checkPut(volume(id), api.OK)
	}
	b.k = two
	b.checkNext(1)
	b.checkList()
	b.checkPut(volume(1), api.ErrCatalogID)
	b.take(3)
	b.checkPut(api.Entry{Name: volume(2).Name, ID: 3, Size: 1}, api.OK)
	m := b.mark()
	b.checkRemove(3, api.OK)
	b.k = one
	b.checkRemove(1, api.OK)
	b.back(m)
	b.checkList(volumes(1, 9)...)
	b.commit()
	b.k = two
	b.checkList(api.Entry{Name: volume(2).Name, ID: 3, Size: 1})
	b.checkNext(4)
	b.format(home + catalog.Blocks())
	b.checkList()
	b.commit()
	b.k = one
	b.checkNext(10)
	b.checkList(volumes(1, 9)...)
}

func TestP8_10TablesOfTwoStores(t *testing.T) {
	b, other := made(t), made(t)
	for id := 1; id <= 10; id++ {
		b.take(2)
		other.take(1)
		b.checkPut(volume(2*id), api.OK)
		other.checkPut(volume(id), api.OK)
		if id%2 == 0 {
			b.commit()
			other.abort()
			other.take(2)
			other.checkPut(volume(id-1), api.OK)
			other.checkPut(volume(id), api.OK)
			other.commit()
		}
	}
	other.checkList(volumes(1, 10)...)
	other.checkNext(11)
	b.checkNext(21)
	b.darken()
	other.take(1)
	other.checkPut(volume(11), api.OK)
	other.commit()
	other.checkList(volumes(1, 11)...)
}

// What was told in a transaction is seen in it alone until it is committed.
func TestP8_10WhatIsNotCommittedIsNotThere(t *testing.T) {
	b := made(t)
	b.take(2)
	b.checkPut(volume(1), api.OK)
	f := b.again()
	f.checkNext(1)
	f.checkList()
	b.commit()
	b.checkPut(volume(2), api.OK)
	b.checkRemove(1, api.OK)
	f = b.again()
	f.checkNext(3)
	f.checkList(volume(1))
	b.abort()
	b.checkList(volume(1))
	b.checkNext(3)
}
