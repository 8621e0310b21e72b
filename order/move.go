package order

import (
	"maps"
	"slices"
	"strconv"

	"cistern/api"
)

// moves are the renames by their Names.
type moves map[string]rename

// movesOf asks that no two volumes have one name behind the renames.
func movesOf(v api.View, steps []step) (moves, api.Errno) {
	m, taken, count := moves{}, map[string]int{}, 0
	for _, s := range steps {
		if r, ok := s.(rename); ok {
			m[r.Name] = r
			taken[r.Other]++
			count++
		}
	}
	if len(m) < count || len(taken) < count {
		return nil, api.ErrOrderStep
	}
	for _, x := range v.Volumes {
		if _, goes := m[x.Name]; !goes && taken[x.Name] > 0 {
			return nil, api.ErrOrderStep
		}
	}
	return m, api.OK
}

// behind gives the name that a volume has behind the renames.
func (m moves) behind(name string) string {
	if r, ok := m[name]; ok {
		return r.Other
	}
	return name
}

// heads gives the least Name of each circle, the least one first. A rename of a name to itself stands in nobody's way.
func (m moves) heads() []string {
	var out []string
	met := map[string]int{}
	for i, name := range slices.Sorted(maps.Keys(m)) {
		at := name
		for r, ok := m[at]; ok && met[at] == 0; r, ok = m[at] {
			met[at] = i + 1
			at = r.Other
		}
		if met[at] == i+1 && m[name].Other != name {
			out = append(out, name)
		}
	}
	return out
}

// asides gives for each circle's least Name the number of the name that it goes to first.
func (m moves) asides(taken map[string]int) map[string]int {
	out := map[string]int{}
	k := 1
	for _, name := range m.heads() {
		for taken[asideName(k)] > 0 {
			k++
		}
		out[name] = k
		k++
	}
	return out
}

func asideName(k int) string { return "~" + strconv.Itoa(k) }

// namesOf gives all names that a name aside may not be.
func namesOf(v api.View, steps []step) map[string]int {
	names := map[string]int{}
	for _, x := range v.Volumes {
		names[x.Name] = 1
	}
	for _, s := range steps {
		o := s.operation()
		names[o.Name], names[o.Other] = 1, 1
	}
	return names
}

// broken gives the steps with two in the place of each that has a name to go aside to.
func broken(steps []step, asides map[string]int) []step {
	var out []step
	for _, s := range steps {
		o := s.operation()
		if r, ok := s.(rename); ok && asides[r.Name] > 0 {
			name := asideName(asides[r.Name])
			o.Other = name
			out = append(out, aside{plain{o}})
			o.Name, o.Other = name, r.Other
			out = append(out, back{plain{o}})
			continue
		}
		out = append(out, s)
	}
	return out
}
