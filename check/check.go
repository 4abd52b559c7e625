// Package check puts errors in order. The layers examine arguments with it.
package check

import "crux/api"

// First returns the first of errors that is not OK, or OK.
func First(l ...api.Errno) api.Errno {
	for _, e := range l {
		if e != api.OK {
			return e
		}
	}
	return api.OK
}

// If returns an error if something is wrong, otherwise OK.
func If(wrong bool, e api.Errno) api.Errno {
	if wrong {
		return e
	}
	return api.OK
}
