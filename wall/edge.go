package wall

import (
	"cmp"
	"slices"

	"crux/api"
	"crux/check"
	"crux/exact"
	"crux/space"
)

// Neighbours returns the pairs of panels that share an edge.
func Neighbours(w Wall) ([][2]int, api.Errno) {
	s, e := structureOf(w)
	if e != api.OK {
		return nil, e
	}
	var pairs [][2]int
	for i, f := range s.faces {
		for edge := range f.edges() {
			if j, shared := s.owners[edge.back()]; shared && i < j {
				pairs = append(pairs, [2]int{i, j})
			}
		}
	}
	slices.SortFunc(pairs, comparePairs)
	return slices.Compact(pairs), api.OK
}

// Loose returns the edges that neither another panel nor the frame has.
func Loose(w Wall) ([]Edge, api.Errno) {
	s, e := structureOf(w)
	if e != api.OK {
		return nil, e
	}
	var loose []Edge
	for _, f := range s.faces {
		for edge := range f.edges() {
			if _, shared := s.owners[edge.back()]; !shared && !s.frame[edge] {
				loose = append(loose, edge)
			}
		}
	}
	return loose, api.OK
}

// Bend returns how two panels that share an edge lean to each other.
func Bend(w Wall, a, b int) (api.Rat, api.Errno) {
	s, e := structureOf(w)
	if e = check.First(e, s.checkNumber(a), s.checkNumber(b)); e != api.OK {
		return "", e
	}
	if !s.shareEdge(a, b) {
		return "", api.ErrNone
	}
	// The lengths of the vectors do not matter, so they need not be normals.
	m, n := s.faces[a].vector, s.faces[b].vector
	d := m.ExactDot(n)
	return ratio(d.Times(d.Size()), squares(m, n)), api.OK
}

// back returns an edge with its ends exchanged.
func (e Edge) back() Edge {
	return Edge{A: e.B, B: e.A}
}

func (s *structure) shareEdge(a, b int) bool {
	for edge := range s.faces[a].edges() {
		if n, shared := s.owners[edge.back()]; shared && n == b {
			return true
		}
	}
	return false
}

// squares returns the product of the squares of vectors.
func squares(l ...space.Vector) exact.Int {
	product := exact.Whole(1)
	for _, a := range l {
		product = product.Times(a.ExactDot(a))
	}
	return product
}

func comparePairs(a, b [2]int) int {
	return cmp.Or(cmp.Compare(a[0], b[0]), cmp.Compare(a[1], b[1]))
}
