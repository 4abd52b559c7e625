package number

import (
	"crux/api"
	"crux/check"
	"crux/exact"
	"crux/space"
)

// Dot returns the scalar product of two vectors.
func Dot(a, b api.Place) (int, api.Errno) {
	if e := check.Places(a, b); e != api.OK {
		return 0, e
	}
	return space.Of(a).Dot(space.Of(b)), api.OK
}

// Cross returns the vector product of two vectors.
func Cross(a, b api.Place) (api.Place, api.Errno) {
	if e := check.Places(a, b); e != api.OK {
		return api.Place{}, e
	}
	return space.Of(a).Cross(space.Of(b)).Place(), api.OK
}

// Length returns a span that contains the length of a vector.
func Length(a api.Place) (api.Span, api.Errno) {
	if e := check.Places(a); e != api.OK {
		return api.Span{}, e
	}
	square := exact.Whole(space.Square(api.Place{}, a))
	low := square.Root()
	high := low
	if low.Times(low).Compare(square) < 0 {
		high = low.Plus(exact.Whole(1))
	}
	return writeSpan(exact.Span{Low: exact.Integer(low), High: exact.Integer(high)})
}
