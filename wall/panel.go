package wall

import (
	"iter"

	"crux/api"
	"crux/check"
	"crux/exact"
	"crux/number"
	"crux/space"
)

// face is a panel without errors, and what follows from its corners.
type face struct {
	panel  Panel
	vector space.Vector
	axis   int // one along which the vector is not 0
}

// CheckPanel returns the first error of a panel, or OK.
func CheckPanel(p Panel) api.Errno {
	_, e := faceOf(p)
	return e
}

// Normal returns the shortest vector of integers that points from a panel to the climbers.
func Normal(p Panel) (api.Place, api.Errno) {
	f, e := faceOf(p)
	if e != api.OK {
		return api.Place{}, e
	}
	return shortened(f.vector).Place(), api.OK
}

// Area returns the area of a panel.
func Area(p Panel) (api.Span, api.Errno) {
	f, e := faceOf(p)
	if e != api.OK {
		return api.Span{}, e
	}
	twice := space.Vector{}
	for edge := range f.edges() {
		first := p.Corners[0]
		twice = twice.Plus(space.Way(first, edge.A).Cross(space.Way(first, edge.B)))
	}
	square := exact.Quotient(twice.ExactDot(twice), exact.Whole(4))
	return number.Root(api.Rat(square.String()))
}

// Steepness returns how far a panel leans.
func Steepness(p Panel) (api.Rat, api.Errno) {
	f, e := faceOf(p)
	if e != api.OK {
		return "", e
	}
	z := exact.Whole(f.vector[space.Z])
	return ratio(z.Times(z.Size()), f.vector.ExactDot(f.vector)), api.OK
}

// On returns 1, 0 or -1 for a place inside, on the border, or outside of a panel, in its plane.
func On(p Panel, at api.Place) (int, api.Errno) {
	f, e := faceOf(p)
	if e = check.First(e, check.Places(at)); e != api.OK {
		return 0, e
	}
	if f.height(at) != 0 {
		return 0, api.ErrPlane
	}
	return f.position(at), api.OK
}

// faceOf returns a panel with its vector, or the first error of the panel.
func faceOf(p Panel) (face, api.Errno) {
	if e := checkCorners(p); e != api.OK {
		return face{}, e
	}
	c := p.Corners
	f := face{panel: p, vector: space.Way(c[0], c[1]).Cross(space.Way(c[1], c[2]))}
	if f.vector.IsZero() {
		return face{}, api.ErrShape
	}
	for f.vector[f.axis] == 0 {
		f.axis++
	}
	e := check.First(f.checkPlane(), f.checkBorder(), f.checkGrid())
	if e != api.OK {
		return face{}, e
	}
	return f, api.OK
}

func checkCorners(p Panel) api.Errno {
	few, many := len(p.Corners) < 3, len(p.Corners) > MaxCorners
	e := check.First(check.If(few, api.ErrShape), check.If(many, api.ErrMany))
	if e != api.OK {
		return e
	}
	return check.First(check.Places(p.Corners...), check.Places(p.Origin, p.U, p.V))
}

func (f face) checkPlane() api.Errno {
	for _, c := range f.panel.Corners {
		if f.height(c) != 0 {
			return api.ErrPlane
		}
	}
	return api.OK
}

// checkBorder looks at a panel whose corners are in its plane.
func (f face) checkBorder() api.Errno {
	corners := f.panel.Corners
	for a := range corners {
		b := (a + 1) % len(corners)
		for p := range corners {
			if p != a && p != b && f.side(Edge{A: corners[a], B: corners[b]}, corners[p]) <= 0 {
				return api.ErrShape
			}
		}
	}
	return api.OK
}

func (f face) checkGrid() api.Errno {
	u, v := space.Of(f.panel.U), space.Of(f.panel.V)
	leaves := f.height(f.panel.Origin) != 0 || f.vector.Dot(u) != 0 || f.vector.Dot(v) != 0
	return check.First(check.If(leaves, api.ErrPlane), check.If(u.Cross(v).IsZero(), api.ErrSingular))
}

// edges visits the edges of a panel, in the order of the corners from which they go.
func (f face) edges() iter.Seq[Edge] {
	return func(yield func(Edge) bool) {
		corners := f.panel.Corners
		for i, a := range corners {
			if !yield(Edge{A: a, B: corners[(i+1)%len(corners)]}) {
				return
			}
		}
	}
}

// height is above 0 for a place on the side of the climbers, 0 for one in the plane, and below 0 behind it.
func (f face) height(at api.Place) int {
	return f.vector.Dot(space.Way(f.panel.Corners[0], at))
}

// side returns 1, 0 or -1 for a place of the plane on the inner side of an edge, in line with it, or on its outer side.
func (f face) side(e Edge, at api.Place) int {
	// In the plane each cross product is a multiple of the vector, so one coordinate has its sign.
	turn := space.Way(e.A, e.B).Cross(space.Way(e.A, at))
	return sign(turn[f.axis]) * sign(f.vector[f.axis])
}

// position returns 1, 0 or -1 for a place of the plane inside, on the border, or outside.
func (f face) position(at api.Place) int {
	least := 1
	for e := range f.edges() {
		least = min(least, f.side(e, at))
	}
	return least
}

// ratio returns the text of a quotient.
func ratio(num, den exact.Int) api.Rat {
	return api.Rat(exact.Quotient(num, den).String())
}
