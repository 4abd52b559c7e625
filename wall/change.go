package wall

import (
	"slices"

	"crux/api"
	"crux/check"
	"crux/space"
)

// change is what happens to the parts of a wall.
type change struct {
	place func(a api.Place) api.Place
	arrow func(a api.Place) api.Place // for U and V, which are no places
	flips bool                        // whether what was counterclockwise becomes clockwise
}

// Moved returns a wall that is moved.
func Moved(w Wall, by api.Place) (Wall, api.Errno) {
	if e := check.First(CheckWall(w), check.Places(by)); e != api.OK {
		return Wall{}, e
	}
	move := change{
		place: func(a api.Place) api.Place { return space.Of(a).Plus(space.Of(by)).Place() },
		arrow: func(a api.Place) api.Place { return a },
	}
	moved := move.wall(w)
	if e := moved.checkReach(); e != api.OK {
		return Wall{}, e
	}
	return moved, api.OK
}

// Turned returns a wall that is turned about the vertical axis by quarters.
func Turned(w Wall, quarters int) (Wall, api.Errno) {
	if e := CheckWall(w); e != api.OK {
		return Wall{}, e
	}
	turn := func(a api.Place) api.Place {
		for range (quarters%4 + 4) % 4 {
			a.X, a.Y = -a.Y, a.X
		}
		return a
	}
	return change{place: turn, arrow: turn}.wall(w), api.OK
}

// Mirrored returns a wall with left and right exchanged.
func Mirrored(w Wall) (Wall, api.Errno) {
	if e := CheckWall(w); e != api.OK {
		return Wall{}, e
	}
	mirror := func(a api.Place) api.Place {
		a.X = -a.X
		return a
	}
	return change{place: mirror, arrow: mirror, flips: true}.wall(w), api.OK
}

func (c change) wall(w Wall) Wall {
	return Wall{
		Name:   w.Name,
		Panels: changed(w.Panels, c.panel),
		Frame:  changed(w.Frame, c.edge),
		Holds:  slices.Clone(w.Holds),
	}
}

func (c change) panel(p Panel) Panel {
	corners := changed(p.Corners, c.place)
	if c.flips {
		slices.Reverse(corners[1:])
	}
	return Panel{Corners: corners, Origin: c.place(p.Origin), U: c.arrow(p.U), V: c.arrow(p.V)}
}

func (c change) edge(e Edge) Edge {
	e = Edge{A: c.place(e.A), B: c.place(e.B)}
	if c.flips {
		return e.back()
	}
	return e
}

// changed returns a new list of what a function makes of the elements of a list.
func changed[T any](l []T, f func(T) T) []T {
	var result []T
	for _, x := range l {
		result = append(result, f(x))
	}
	return result
}

// checkReach returns an error if a place of a wall is too far away.
func (w Wall) checkReach() api.Errno {
	var places []api.Place
	for _, p := range w.Panels {
		places = append(append(places, p.Corners...), p.Origin)
	}
	for _, e := range w.Frame {
		places = append(places, e.A, e.B)
	}
	return check.Places(places...)
}
