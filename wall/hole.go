package wall

import (
	"strings"

	"crux/api"
	"crux/check"
	"crux/space"
)

// Hole returns the place of a hole.
func Hole(p Panel, i, j int) (api.Place, api.Errno) {
	f, e := faceOf(p)
	if e != api.OK {
		return api.Place{}, e
	}
	return f.hole(i, j)
}

// Holes returns all holes of a panel.
func Holes(p Panel) ([][2]int, api.Errno) {
	f, e := faceOf(p)
	if e != api.OK {
		return nil, e
	}
	return f.holes()
}

// Picture returns a picture of the holes and holds of a panel.
func Picture(w Wall, panel int) (string, api.Errno) {
	s, e := structureOf(w)
	if e = check.First(e, s.checkNumber(panel)); e != api.OK {
		return "", e
	}
	holes, e := s.faces[panel].holes()
	if e = check.First(e, check.If(len(holes) == 0, api.ErrNone)); e != api.OK {
		return "", e
	}
	marks := map[[2]int]byte{}
	for _, h := range holes {
		marks[h] = '.'
	}
	for _, h := range w.Holds {
		if h.Panel == panel {
			marks[[2]int{h.I, h.J}] = '#'
		}
	}
	return draw(marks), api.OK
}

// draw returns the lines of a picture with marks, and blanks between them.
func draw(marks map[[2]int]byte) string {
	least, greatest := [2]int{MaxGrid, MaxGrid}, [2]int{-MaxGrid, -MaxGrid}
	for at := range marks {
		for k, n := range at {
			least[k], greatest[k] = min(least[k], n), max(greatest[k], n)
		}
	}
	var picture strings.Builder
	for j := greatest[1]; j >= least[1]; j-- {
		for i := least[0]; i <= greatest[0]; i++ {
			mark, drawn := marks[[2]int{i, j}]
			if !drawn {
				mark = ' '
			}
			picture.WriteByte(mark)
		}
		picture.WriteByte('\n')
	}
	return picture.String()
}

// hole returns the place of a hole, or the error of its numbers.
func (f face) hole(i, j int) (api.Place, api.Errno) {
	if isOffGrid(i) || isOffGrid(j) {
		return api.Place{}, api.ErrRange
	}
	at := f.spot(i, j)
	if f.position(at) < 0 {
		return api.Place{}, api.ErrPlane
	}
	return at, api.OK
}

func isOffGrid(n int) bool {
	return n < -MaxGrid || n > MaxGrid
}

// spot returns the place of a hole, also if it is not on the panel.
func (f face) spot(i, j int) api.Place {
	u, v := space.Of(f.panel.U), space.Of(f.panel.V)
	return space.Of(f.panel.Origin).Plus(u.Times(i)).Plus(v.Times(j)).Place()
}

// holes returns the holes in lexicographic order.
func (f face) holes() ([][2]int, api.Errno) {
	var l [][2]int
	for i := -MaxGrid; i <= MaxGrid; i++ {
		least, greatest := f.column(i)
		if len(l)+greatest-least+1 > api.MaxList {
			return nil, api.ErrMany
		}
		for j := least; j <= greatest; j++ {
			l = append(l, [2]int{i, j})
		}
	}
	return l, api.OK
}

// column returns the least and the greatest j of the holes i, j; there are none if the least one is above the greatest one.
func (f face) column(i int) (int, int) {
	least, greatest := -MaxGrid, MaxGrid
	for e := range f.edges() {
		// On a line of holes the distance to an edge grows evenly, so that a division finds where it is 0.
		side := space.Way(e.A, e.B).Times(sign(f.vector[f.axis]))
		distance := side.Cross(space.Way(e.A, f.spot(i, 0)))[f.axis]
		growth := side.Cross(space.Of(f.panel.V))[f.axis]
		switch {
		case growth > 0:
			least = max(least, -floor(distance, growth))
		case growth < 0:
			greatest = min(greatest, floor(distance, -growth))
		case distance < 0:
			return 0, -1
		}
	}
	return least, max(greatest, least-1)
}

// floor returns the greatest integer that is not above a quotient by a positive number.
func floor(a, b int) int {
	q := a / b
	if a%b < 0 {
		q--
	}
	return q
}
