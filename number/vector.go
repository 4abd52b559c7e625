package number

import (
	"crux/api"
	"crux/check"
	"crux/exact"
)

// Dot returns the scalar product of two vectors.
func Dot(a, b api.Place) (int, api.Errno) {
	if e := check.Places(a, b); e != api.OK {
		return 0, e
	}
	return dot(a, b), api.OK
}

// Cross returns the vector product of two vectors.
func Cross(a, b api.Place) (api.Place, api.Errno) {
	if e := check.Places(a, b); e != api.OK {
		return api.Place{}, e
	}
	return api.Place{X: a.Y*b.Z - a.Z*b.Y, Y: a.Z*b.X - a.X*b.Z, Z: a.X*b.Y - a.Y*b.X}, api.OK
}

// Length returns a span that contains the length of a vector.
func Length(a api.Place) (api.Span, api.Errno) {
	if e := check.Places(a); e != api.OK {
		return api.Span{}, e
	}
	square := exact.Whole(dot(a, a))
	low := square.Root()
	high := low
	if low.Times(low).Compare(square) < 0 {
		high = low.Plus(exact.Whole(1))
	}
	return writeSpan(interval{exact.Integer(low), exact.Integer(high)})
}

func dot(a, b api.Place) int {
	return a.X*b.X + a.Y*b.Y + a.Z*b.Z
}
