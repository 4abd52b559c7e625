// Package check puts errors in order. The layers examine arguments with it.
package check

import "crux/api"

// First returns the first of errors that is not OK, or OK.
func First(l ...api.Errno) api.Errno {
	for _, e := range l {
		if e != api.OK {
			return e
		}
	}
	return api.OK
}

// If returns an error if something is wrong, otherwise OK.
func If(wrong bool, e api.Errno) api.Errno {
	if wrong {
		return e
	}
	return api.OK
}

// Each searches a list for the first element with an error, and returns this error, or OK. The error of an element may depend on its number.
func Each[T any](l []T, errorOf func(i int, x T) api.Errno) api.Errno {
	_, e := Find(l, errorOf)
	return e
}

// Find searches a list for the first element with an error, and returns its number and its error, or 0 and OK.
func Find[T any](l []T, errorOf func(i int, x T) api.Errno) (int, api.Errno) {
	for i, x := range l {
		if e := errorOf(i, x); e != api.OK {
			return i, e
		}
	}
	return 0, api.OK
}

// Range returns ErrRange if a number is not from the least to the greatest one.
func Range(n, least, greatest int) api.Errno {
	return If(n < least || n > greatest, api.ErrRange)
}

// Places returns ErrRange if a coordinate of one of the places is too far away.
func Places(l ...api.Place) api.Errno {
	return Each(l, func(_ int, a api.Place) api.Errno {
		return First(far(a.X), far(a.Y), far(a.Z))
	})
}

func far(coordinate int) api.Errno {
	return Range(coordinate, -api.MaxPlace, api.MaxPlace)
}
