package start

import (
	"cmp"
	"iter"
	"slices"

	"crux/api"
	"crux/check"
	"crux/number"
)

// The lanes of a race, by which a winner is named, and what is there in the place of a winner.
const (
	open  = 0
	laneA = 1
	laneB = 2
	none  = 3
)

// maxRaces is the number of races of the first round of the largest bracket.
const maxRaces = MaxSlots / 2

// beaten has for each winner the lane of the one who has lost alone, or 0 if there is none.
var beaten = [...]int{laneA: laneB, laneB: laneA, none: 0}

// CheckRaces returns the first error of races, or OK.
func CheckRaces(l []Race) api.Errno {
	isPower := len(l)&(len(l)-1) == 0
	if len(l) < 1 || len(l) > maxRaces || !isPower {
		return api.ErrShape
	}
	return check.Each(l, func(i int, r Race) api.Errno { return r.checkBehind(l[:i]) })
}

// Next returns the races of the next round.
func Next(l []Race) ([]Race, api.Errno) {
	e := check.First(CheckRaces(l), check.If(len(l) == 1, api.ErrOver), checkDecided(l))
	if e != api.OK {
		return nil, e
	}
	return next(l), api.OK
}

// Small returns the race of those who have lost in the last round but one.
func Small(l []Race) (Race, api.Errno) {
	e := check.First(CheckRaces(l), check.If(len(l) != 2, api.ErrShape), checkDecided(l))
	if e != api.OK {
		return Race{}, e
	}
	return raceOf(l[0].in(beaten[l[0].Winner]), l[1].in(beaten[l[1].Winner])), api.OK
}

// Duel returns who wins a race by both runs.
func Duel(a, b Run) (int, api.Errno) {
	if e := check.First(a.check(), b.check()); e != api.OK {
		return 0, e
	}
	return duel(a, b), api.OK
}

// raceOf returns a race at its beginning, when it is decided only if one of both is nobody.
func raceOf(a, b string) Race {
	r := Race{A: a, B: b}
	switch {
	case a == "" && b == "":
		r.Winner = none
	case a == "":
		r.Winner = laneB
	case b == "":
		r.Winner = laneA
	}
	return r
}

// in returns who is in a lane, or nobody if there is no such lane.
func (r Race) in(lane int) string {
	switch lane {
	case laneA:
		return r.A
	case laneB:
		return r.B
	}
	return ""
}

// climbers goes through the climbers of races, with the races and the lanes in which they are.
func climbers(l []Race) iter.Seq2[Race, int] {
	return func(yield func(Race, int) bool) {
		for _, r := range l {
			for lane := laneA; lane <= laneB; lane++ {
				if r.in(lane) != "" && !yield(r, lane) {
					return
				}
			}
		}
	}
}

// checkBehind returns the first error of a race behind others.
func (r Race) checkBehind(before []Race) api.Errno {
	first := raceOf(r.A, r.B)
	return check.First(
		check.If(r.A != "" && !number.IsName(r.A) || r.B != "" && !number.IsName(r.B), api.ErrName),
		check.If(r.A != "" && r.A == r.B || r.sharesOneOf(before), api.ErrTwice),
		check.Range(r.Winner, open, none),
		check.If(first.Winner != open && r != first, api.ErrState),
	)
}

func (r Race) sharesOneOf(races []Race) bool {
	for x, lane := range climbers(races) {
		if x.in(lane) == r.A || x.in(lane) == r.B {
			return true
		}
	}
	return false
}

func checkDecided(l []Race) api.Errno {
	isOpen := func(r Race) bool { return r.Winner == open }
	return check.If(slices.ContainsFunc(l, isOpen), api.ErrOpen)
}

// next returns the races of the next round, if there is one, and all races are decided.
func next(l []Race) []Race {
	var races []Race
	for pair := range slices.Chunk(l, 2) {
		races = append(races, raceOf(pair[0].in(pair[0].Winner), pair[1].in(pair[1].Winner)))
	}
	return races
}

func (r Run) check() api.Errno {
	return check.First(checkTime(r.Reaction), checkTime(r.Time))
}

func (r Run) isFalse() bool {
	return r.Reaction < Limit
}

func (r Run) isFall() bool {
	return r.Time == 0
}

func duel(a, b Run) int {
	switch {
	case a.isFalse() && b.isFalse():
		return none
	case a.isFalse():
		return laneB
	case b.isFalse():
		return laneA
	case a.isFall() && b.isFall():
		return open
	case a.isFall():
		return laneB
	case b.isFall():
		return laneA
	}
	switch cmp.Or(cmp.Compare(a.Time, b.Time), cmp.Compare(a.Reaction, b.Reaction)) {
	case -1:
		return laneA
	case 1:
		return laneB
	}
	return open
}
