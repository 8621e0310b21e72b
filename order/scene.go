package order

import "cistern/api"

// scene is what the rules ask of a view and its steps. Its volumes bear their names behind the renames.
type scene struct {
	steps  []step
	named  map[string]api.Volume
	known  map[int]api.Volume
	makers map[string]step // of each name the first that makes it
	snaps  map[string]snap // of each name the first snapshot
	sizes  map[string]int  // at birth, as far as they were asked for
}

func sceneOf(v api.View, m moves, steps []step) *scene {
	s := &scene{steps, map[string]api.Volume{}, map[int]api.Volume{}, map[string]step{}, map[string]snap{}, map[string]int{}}
	for _, x := range v.Volumes {
		x.Name = m.behind(x.Name)
		s.named[x.Name], s.known[x.ID], s.sizes[x.Name] = x, x, x.Size
	}
	for _, x := range steps {
		s.note(x)
	}
	return s
}

// note keeps a step, if it is the first that makes its name.
func (s *scene) note(x step) {
	name := x.operation().Name
	switch x := x.(type) {
	case snap:
		if _, ok := s.snaps[name]; !ok {
			s.snaps[name] = x
		}
	case create, clone:
	default:
		return
	}
	if _, ok := s.makers[name]; !ok {
		s.makers[name] = x
	}
}

// source gives the name that a name comes from, or none.
func (s *scene) source(name string) string {
	if x, ok := s.named[name]; ok {
		return s.known[x.Origin].Name
	}
	return s.snaps[name].Other
}

// born gives a name's size at birth. Whoever is on the way to it has 0 meanwhile: so a circle ends, and with 0.
func (s *scene) born(name string) int {
	var way []string
	size, ok := s.sizes[name]
	for !ok {
		way = append(way, name)
		s.sizes[name] = 0
		switch maker := s.makers[name].(type) {
		case create:
			size, ok = maker.To, true
		case snap, clone:
			name = maker.operation().Other
			size, ok = s.sizes[name]
		default:
			ok = true
		}
	}
	for _, name := range way {
		s.sizes[name] = size
	}
	return size
}
