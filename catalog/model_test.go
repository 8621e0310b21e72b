package catalog_test

import (
	"maps"
	"slices"
	"strings"
	"testing"

	"cistern/api"
)

// model is a table as the chapter tells it, plainly.
type model struct {
	next    int
	entries map[int]api.Entry
}

func (m model) clone() model { return model{next: m.next, entries: maps.Clone(m.entries)} }

func (m model) list() []api.Entry {
	return slices.SortedFunc(maps.Values(m.entries), func(a, b api.Entry) int { return strings.Compare(a.Name, b.Name) })
}

func (m model) find(name string) (api.Entry, api.Errno) {
	for _, e := range m.entries {
		if e.Name == name {
			return e, api.OK
		}
	}
	return api.Entry{}, api.ErrCatalogNone
}

func (m model) put(e api.Entry) api.Errno {
	if e.Name == "" || len(e.Name) > 31 || strings.Trim(e.Name, "abcdefghijklmnopqrstuvwxyz0123456789.-_@~") != "" || strings.Contains("0123456789.-_@", e.Name[:1]) {
		return api.ErrCatalogName
	}
	if e.ID < 1 || e.ID > 1<<30 || e.Size < 1 || e.Size > 262144 || e.Origin < 0 || e.Origin > 1<<30 || e.Kind < 0 || e.Kind > 1 || e.Root < 0 || e.Root > 262144 {
		return api.ErrCatalogEntry
	}
	if e.ID >= m.next {
		return api.ErrCatalogID
	}
	if other, err := m.find(e.Name); err == api.OK && other.ID != e.ID {
		return api.ErrCatalogTaken
	}
	if _, ok := m.entries[e.ID]; !ok && len(m.entries) == 64 {
		return api.ErrCatalogFull
	}
	m.entries[e.ID] = e
	return api.OK
}

func (m model) remove(id int) api.Errno {
	if _, ok := m.entries[id]; !ok {
		return api.ErrCatalogNone
	}
	delete(m.entries, id)
	return api.OK
}

// play is a catalog and its model side by side, through transactions and marks.
type play struct {
	*bench
	chance []byte
	now    model
	begun  model
	marks  []model
}

func (p *play) roll(n int) int {
	p.chance = p.chance[2:]
	return (int(p.chance[0])<<8 | int(p.chance[1])) % n
}

func (p *play) name() string {
	switch p.roll(12) {
	case 0:
		return []string{"", "A", "1", "a/b", strings.Repeat("a", 32), "-"}[p.roll(6)]
	case 1:
		return strings.Repeat("~", 1+p.roll(31))
	}
	return "v" + string(rune('a'+p.roll(9))) + strings.Repeat("@", p.roll(10))
}

func (p *play) entry() api.Entry {
	e := api.Entry{Name: p.name(), ID: 1 + p.roll(max(p.now.next+2, 1)), Size: 1 + p.roll(5000), Origin: p.roll(9), Kind: p.roll(2), Partial: p.roll(2) == 0, Root: p.roll(9)}
	switch p.roll(30) {
	case 0:
		e.Size = 262144 + p.roll(3)
	case 1:
		e.Kind = p.roll(4) - 1
	case 2:
		e.Root = 262144 + p.roll(3)
	case 3:
		e.Origin = -p.roll(2)
	case 4:
		e.ID = -p.roll(2)
	}
	return e
}

// step does one thing with both.
func (p *play) step() {
	p.t.Helper()
	switch p.roll(14) {
	case 0, 1:
		p.checkTake(p.now.next, api.OK)
		p.now.next++
	case 2, 3, 4, 5, 6, 7:
		e := p.entry()
		p.checkPut(e, p.now.put(e))
	case 8, 9:
		id := p.roll(p.now.next+2) - 1
		p.checkRemove(id, p.now.remove(id))
	case 10:
		name := p.name()
		if want, e := p.now.find(name); e == api.OK {
			p.checkFind(name, want)
		} else {
			p.checkNoFind(name)
		}
	case 11:
		if n := p.mark(); n != len(p.marks) {
			p.t.Fatalf("Mark() = %d; want %d", n, len(p.marks))
		}
		p.marks = append(p.marks, p.now.clone())
	case 12:
		if len(p.marks) > 0 {
			m := p.roll(len(p.marks))
			p.back(m)
			p.now = p.marks[m].clone()
			p.marks = p.marks[:m+1]
		}
	case 13:
		p.end()
	}
	p.checkList(p.now.list()...)
	p.checkNext(p.now.next)
}

// end ends the transaction, or has the table found anew.
func (p *play) end() {
	p.t.Helper()
	switch p.roll(4) {
	case 0:
		p.abort()
		p.now = p.begun.clone()
	case 1:
		p.bench = p.again()
		p.now = p.begun.clone()
	default:
		p.commit()
	}
	p.begun = p.now.clone()
	p.marks = nil
}

func TestP8_10MixedCallsAgainstAModel(t *testing.T) {
	most := 0
	for seed := range uint32(6) {
		p := &play{bench: made(t), chance: noise(40000, seed+1), now: model{next: 1, entries: map[int]api.Entry{}}}
		p.begun = p.now.clone()
		for len(p.chance) > 100 && !t.Failed() {
			p.step()
			most = max(most, len(p.now.entries))
		}
	}
	if most < 30 {
		t.Errorf("there were at most %d entries: too few for a test", most)
	}
}
