package wall

import (
	"slices"

	"crux/api"
	"crux/check"
	"crux/number"
)

// structure is a wall without errors, and what follows from it.
type structure struct {
	wall   Wall
	faces  []face
	owners map[Edge]int // the panel that has an edge
	frame  map[Edge]bool
	spots  []api.Place // of the holds
}

// CheckWall returns the first error of a wall, or OK.
func CheckWall(w Wall) api.Errno {
	_, e := structureOf(w)
	return e
}

// Spot returns the place of a hold.
func Spot(w Wall, hold string) (api.Place, api.Errno) {
	s, e := structureOf(w)
	at, unknown := s.spot(hold)
	if e = check.First(e, unknown); e != api.OK {
		return api.Place{}, e
	}
	return at, api.OK
}

// Find returns the first panel that has a place.
func Find(w Wall, at api.Place) (int, api.Errno) {
	s, e := structureOf(w)
	if e = check.First(e, check.Places(at)); e != api.OK {
		return 0, e
	}
panels:
	for n, f := range s.faces {
		if f.height(at) != 0 {
			continue
		}
		for edge := range f.edges() {
			if f.side(edge, at) < 0 {
				continue panels
			}
		}
		return n, api.OK
	}
	return 0, api.ErrNone
}

// structureOf returns a wall with what follows from it, or the first error of the wall.
func structureOf(w Wall) (structure, api.Errno) {
	s := structure{wall: w, owners: map[Edge]int{}, frame: map[Edge]bool{}}
	steps := []func() api.Errno{s.addName, s.addPanels, s.addFrame, s.addHolds}
	for _, add := range steps {
		if e := add(); e != api.OK {
			return structure{}, e
		}
	}
	return s, api.OK
}

func (s *structure) addName() api.Errno {
	return check.If(!number.IsName(s.wall.Name), api.ErrName)
}

func (s *structure) addPanels() api.Errno {
	n := len(s.wall.Panels)
	if e := check.First(check.If(n == 0, api.ErrEmpty), check.If(n > api.MaxPanels, api.ErrMany)); e != api.OK {
		return e
	}
	for i, p := range s.wall.Panels {
		f, e := faceOf(p)
		if e != api.OK {
			return e
		}
		for edge := range f.edges() {
			if _, taken := s.owners[edge]; taken {
				return api.ErrConflict
			}
			s.owners[edge] = i
		}
		s.faces = append(s.faces, f)
	}
	return api.OK
}

func (s *structure) addFrame() api.Errno {
	if len(s.wall.Frame) > api.MaxList {
		return api.ErrMany
	}
	for _, edge := range s.wall.Frame {
		e := check.First(
			check.Places(edge.A, edge.B),
			check.If(edge.A == edge.B, api.ErrZero),
			check.If(s.frame[edge], api.ErrTwice),
		)
		if e != api.OK {
			return e
		}
		s.frame[edge] = true
	}
	return api.OK
}

func (s *structure) addHolds() api.Errno {
	if len(s.wall.Holds) > api.MaxHolds {
		return api.ErrMany
	}
	names := map[string]bool{}
	for _, h := range s.wall.Holds {
		at, none := s.holdPlace(h)
		e := check.First(
			check.If(!number.IsName(h.Name), api.ErrName),
			check.If(names[h.Name], api.ErrTwice),
			none,
			check.If(slices.Contains(s.spots, at), api.ErrConflict),
		)
		if e != api.OK {
			return e
		}
		names[h.Name] = true
		s.spots = append(s.spots, at)
	}
	return api.OK
}

// holdPlace returns the place of a hold, or the error of its panel or its hole.
func (s *structure) holdPlace(h Hold) (api.Place, api.Errno) {
	if e := s.checkNumber(h.Panel); e != api.OK {
		return api.Place{}, e
	}
	return s.faces[h.Panel].hole(h.I, h.J)
}

// checkNumber returns the error of the number of a panel.
func (s *structure) checkNumber(panel int) api.Errno {
	return check.If(panel < 0 || panel >= len(s.faces), api.ErrUnknown)
}

// spot returns the place of the hold with a name, or the error of the name.
func (s *structure) spot(name string) (api.Place, api.Errno) {
	i := slices.IndexFunc(s.wall.Holds, func(h Hold) bool { return h.Name == name })
	if i < 0 {
		return api.Place{}, api.ErrUnknown
	}
	return s.spots[i], api.OK
}
