package wall

import (
	"crux/api"
	"crux/check"
	"crux/space"
)

// maxReach is the greatest distance that Within accepts.
const maxReach = 1000000

// Distance returns the square of the distance of two holds.
func Distance(w Wall, a, b string) (int, api.Errno) {
	_, from, to, e := twoSpots(w, a, b)
	if e != api.OK {
		return 0, e
	}
	return space.Square(from, to), api.OK
}

// Within returns the holds that are at most a distance away from a hold.
func Within(w Wall, hold string, reach int) ([]string, api.Errno) {
	s, e := structureOf(w)
	from, unknown := s.spot(hold)
	wrong := reach < 0 || reach > maxReach
	if e = check.First(e, unknown, check.If(wrong, api.ErrRange)); e != api.OK {
		return nil, e
	}
	var names []string
	for i, h := range w.Holds {
		if h.Name != hold && space.Square(from, s.spots[i]) <= reach*reach {
			names = append(names, h.Name)
		}
	}
	return names, api.OK
}

// Blocks returns the panels through which the straight way from one place to another one goes.
func Blocks(w Wall, a, b api.Place) ([]int, api.Errno) {
	s, e := structureOf(w)
	if e = check.First(e, check.Places(a, b)); e != api.OK {
		return nil, e
	}
	return s.blocks(a, b), api.OK
}

// Sees reports whether no panel stands between two holds.
func Sees(w Wall, a, b string) (bool, api.Errno) {
	s, from, to, e := twoSpots(w, a, b)
	if e != api.OK {
		return false, e
	}
	return len(s.blocks(from, to)) == 0, api.OK
}

func twoSpots(w Wall, a, b string) (structure, api.Place, api.Place, api.Errno) {
	s, e := structureOf(w)
	from, first := s.spot(a)
	to, second := s.spot(b)
	return s, from, to, check.First(e, first, second)
}

func (s *structure) blocks(a, b api.Place) []int {
	var between []int
	for n, f := range s.faces {
		if f.standsBetween(a, b) {
			between = append(between, n)
		}
	}
	return between
}

func (f face) standsBetween(a, b api.Place) bool {
	end := sign(f.height(b))
	if sign(f.height(a))*end >= 0 {
		return false
	}
	for e := range f.edges() {
		// The triple product does not change if a goes on along the way to the plane. There the cross product is a multiple of the vector: a negative one if the point is outside of the edge.
		turn := space.Way(a, b).Dot(space.Way(a, e.A).Cross(space.Way(a, e.B)))
		if sign(turn)*end < 0 {
			return false
		}
	}
	return true
}
