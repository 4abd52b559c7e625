package start

import (
	"slices"

	"crux/api"
	"crux/check"
)

// maxRounds is the number of rounds of the largest bracket.
const maxRounds = 6

// Places returns the places of a bracket.
func Places(rounds [][]Race) ([]Place, api.Errno) {
	if e := checkRounds(rounds); e != api.OK {
		return nil, e
	}
	final := rounds[len(rounds)-1][0]
	var places []Place
	if name := final.in(final.Winner); name != "" {
		places = append(places, Place{Name: name, Place: 1})
	}
	for _, races := range slices.Backward(rounds) {
		for r, lane := range climbers(races) {
			if lane != r.Winner {
				places = append(places, Place{Name: r.in(lane), Place: len(races) + 1})
			}
		}
	}
	return places, api.OK
}

func checkRounds(rounds [][]Race) api.Errno {
	switch {
	case len(rounds) == 0:
		return api.ErrEmpty
	case len(rounds) > maxRounds:
		return api.ErrMany
	}
	e := check.Each(rounds, func(i int, l []Race) api.Errno {
		return checkBehind(rounds[:i], l)
	})
	last := rounds[len(rounds)-1]
	return check.First(e, check.If(len(last) > 1, api.ErrOver), checkDecided(last))
}

// checkBehind returns the first error of a round behind others, which have none.
func checkBehind(before [][]Race, l []Race) api.Errno {
	e := CheckRaces(l)
	if e != api.OK || len(before) == 0 {
		return e
	}
	last := before[len(before)-1]
	e = check.First(check.If(2*len(l) != len(last), api.ErrShape), checkDecided(last))
	if e != api.OK {
		return e
	}
	isBegun := func(r, begun Race) bool { return raceOf(r.A, r.B) == begun }
	return check.If(!slices.EqualFunc(l, next(last), isBegun), api.ErrConflict)
}
