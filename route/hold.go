package route

import (
	"slices"

	"crux/api"
	"crux/check"
	"crux/number"
	"crux/space"
)

// maxValue is the greatest value of a hold.
const maxValue = 999

// CheckRoute returns the first error of a route, or OK.
func CheckRoute(r Route) api.Errno {
	e := check.First(
		check.If(!number.IsName(r.Name), api.ErrName),
		check.If(len(r.Holds) == 0, api.ErrEmpty),
		check.If(len(r.Holds) > api.MaxHolds, api.ErrMany),
	)
	if e != api.OK {
		return e
	}
	return check.First(check.Each(r.Holds, r.checkHold), check.If(!r.has(r.Left, r.Right), api.ErrUnknown))
}

// Moved returns a route that is moved.
func Moved(r Route, by api.Place) (Route, api.Errno) {
	if e := check.First(CheckRoute(r), check.Places(by)); e != api.OK {
		return Route{}, e
	}
	moved := r.changed(func(a api.Place) api.Place {
		return api.Place{X: a.X + by.X, Y: a.Y + by.Y, Z: a.Z + by.Z}
	})
	e := check.Each(moved.Holds, func(_ int, h Hold) api.Errno { return check.Places(h.At) })
	if e != api.OK {
		return Route{}, e
	}
	return moved, api.OK
}

// Mirrored returns the mirrored route.
func Mirrored(r Route) (Route, api.Errno) {
	if e := CheckRoute(r); e != api.OK {
		return Route{}, e
	}
	return r.changed(func(a api.Place) api.Place {
		a.X = -a.X
		return a
	}), api.OK
}

// changed returns a new route whose holds are at other places.
func (r Route) changed(place func(a api.Place) api.Place) Route {
	r.Holds = slices.Clone(r.Holds)
	for i, h := range r.Holds {
		r.Holds[i].At = place(h.At)
	}
	return r
}

func (r Route) checkHold(i int, h Hold) api.Errno {
	before := r.Holds[:i]
	return check.First(
		check.If(!number.IsName(h.Name), api.ErrName),
		check.If(slices.ContainsFunc(before, func(k Hold) bool { return k.Name == h.Name }), api.ErrTwice),
		check.Places(h.At),
		check.If(slices.ContainsFunc(before, func(k Hold) bool { return k.At == h.At }), api.ErrTwice),
		check.Range(h.Value, 0, maxValue),
		check.If(i > 0 && h.Value < before[i-1].Value, api.ErrOrder),
	)
}

// has reports whether there are holds with all these numbers.
func (r Route) has(holds ...int) bool {
	for _, n := range holds {
		if n < 0 || n >= len(r.Holds) {
			return false
		}
	}
	return true
}

// square returns the square of the distance of two holds.
func (r Route) square(a, b int) int {
	return space.Square(r.Holds[a].At, r.Holds[b].At)
}
