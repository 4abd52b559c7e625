package contest

import (
	"slices"

	"crux/api"
	"crux/check"
	"crux/number"
)

// bounds are the greatest numbers that a discipline permits.
type bounds struct {
	size  int
	place int
	hold  int
	tries int
	runs  int
}

// CheckRound returns the first error of a round, or OK.
func CheckRound(r Round) api.Errno {
	most, known := r.bounds()
	return check.First(
		check.If(!known, api.ErrKind),
		checkClimbers(r.Climbers),
		check.Range(r.Size, 1, most.size),
		check.Range(r.Limit, 1, api.MaxTime),
	)
}

// CheckState returns the first error of a state, or OK.
func CheckState(r Round, s State) api.Errno {
	e := check.First(
		CheckRound(r),
		check.Range(s.Time, 0, api.MaxTime),
		check.If(len(s.Climbs) != len(r.Climbers), api.ErrShape),
	)
	if e != api.OK {
		return e
	}
	return check.Each(s.Climbs, func(i int, c Climb) api.Errno { return s.checkClimb(r, i, c) })
}

// CheckEntry returns the first error of an entry, or OK.
func CheckEntry(r Round, e Entry) api.Errno {
	return check.First(CheckRound(r), e.checkIn(r, kinds()))
}

// CheckLog returns the first error of a log, or OK.
func CheckLog(r Round, l []Entry) api.Errno {
	return check.First(CheckRound(r), checkEntries(r, l))
}

// Start returns the state at the beginning.
func Start(r Round) (State, api.Errno) {
	if e := CheckRound(r); e != api.OK {
		return State{}, e
	}
	return r.beginning(), api.OK
}

// bounds returns the bounds of the discipline, and whether it is one.
func (r Round) bounds() (bounds, bool) {
	switch r.Discipline {
	case lead:
		return bounds{size: api.MaxHolds, hold: r.Size}, true
	case boulder:
		return bounds{size: api.MaxBoulders, place: r.Size, tries: r.Size}, true
	case speed:
		return bounds{size: api.MaxRounds, place: lanes, runs: r.Size}, true
	}
	return bounds{}, false
}

func (r Round) beginning() State {
	most, _ := r.bounds()
	s := State{Climbs: make([]Climb, len(r.Climbers))}
	for i := range s.Climbs {
		s.Climbs[i] = Climb{Phase: waiting, Tries: make([]Try, most.tries)}
	}
	return s
}

func checkClimbers(names []string) api.Errno {
	switch {
	case len(names) == 0:
		return api.ErrEmpty
	case len(names) > api.MaxClimbers:
		return api.ErrMany
	}
	return check.Each(names, func(i int, name string) api.Errno {
		return check.First(
			check.If(!number.IsName(name), api.ErrName),
			check.If(slices.Contains(names[:i], name), api.ErrTwice),
		)
	})
}

func checkEntries(r Round, l []Entry) api.Errno {
	if len(l) > api.MaxList {
		return api.ErrMany
	}
	known := kinds()
	return check.Each(l, func(_ int, e Entry) api.Errno { return e.checkIn(r, known) })
}

// checkIn returns the first error of an entry, if the round has none.
func (e Entry) checkIn(r Round, known map[string]kind) api.Errno {
	k, isKnown := known[e.Kind]
	return check.First(
		checkClimber(r, e.Climber),
		check.If(!isKnown, api.ErrKind),
		check.Range(e.Value, 0, api.MaxTime),
		check.Range(e.Time, 0, api.MaxTime),
		check.If(!k.hasValue && e.Value != 0, api.ErrForm),
	)
}

func checkClimber(r Round, climber int) api.Errno {
	return check.If(climber < 0 || climber >= len(r.Climbers), api.ErrUnknown)
}

// checkClimb returns the first error of the climb of a climber. What does not have its form, or its place, cannot be examined further.
func (s State) checkClimb(r Round, i int, c Climb) api.Errno {
	if e := s.checkForm(r, c); e != api.OK {
		return e
	}
	if !c.isPlaced(r) {
		return api.ErrState
	}
	return check.First(
		check.If(c.Open && (c.try().Attempts == 0 || c.try().Top > 0), api.ErrState),
		check.If(r.Discipline == speed && !c.isPhaseOfRuns(r), api.ErrState),
		check.If(c.Phase == on && !r.isFree(s.Climbs[:i], c.Place), api.ErrTwice),
	)
}

func (s State) checkForm(r Round, c Climb) api.Errno {
	return check.First(
		c.checkNames(),
		check.If(c.Phase != done && c.State != "", api.ErrState),
		s.checkNumbers(r, c),
		c.checkLists(r),
		c.checkForeign(r),
	)
}

func (c Climb) checkNames() api.Errno {
	return check.First(
		check.If(!slices.Contains([]string{waiting, on, done}, c.Phase), api.ErrKind),
		check.If(!slices.Contains([]string{"", dns, dnf, dsq}, c.State), api.ErrKind),
	)
}

func (s State) checkNumbers(r Round, c Climb) api.Errno {
	most, _ := r.bounds()
	return check.First(
		check.Range(c.Began, 0, s.Time),
		check.Range(c.Used, 0, r.Limit),
		check.Range(c.Place, 0, most.place),
		check.Range(c.Hold, 0, most.hold),
	)
}

func (c Climb) checkLists(r Round) api.Errno {
	most, _ := r.bounds()
	return check.First(
		check.If(len(c.Tries) != most.tries || len(c.Runs) > most.runs, api.ErrShape),
		check.Each(c.Tries, func(_ int, t Try) api.Errno { return t.check() }),
		check.Each(c.Runs, func(_ int, time int) api.Errno { return check.Range(time, 0, api.MaxTime) }),
	)
}

func (t Try) check() api.Errno {
	return check.First(
		check.Range(t.Attempts, 0, api.MaxAttempts),
		check.Range(t.Zone, 0, t.Attempts),
		check.Range(t.Top, 0, t.Attempts),
		check.If(t.Top > 0 && (t.Zone == 0 || t.Zone > t.Top), api.ErrForm),
		check.If(t.Attempts > 0 && !t.Visited, api.ErrForm),
	)
}

// checkForeign returns ErrForm if a climb has what belongs to another discipline.
func (c Climb) checkForeign(r Round) api.Errno {
	return check.First(
		check.If(r.Discipline != lead && (c.Used != 0 || c.Plus || c.Top), api.ErrForm),
		check.If(r.Discipline != boulder && c.Open, api.ErrForm),
	)
}

// isPlaced says whether who is on has a place, on a boulder that is visited, and who is not has none, and nothing open.
func (c Climb) isPlaced(r Round) bool {
	if c.Phase != on {
		return c.Place == 0 && !c.Open
	}
	switch r.Discipline {
	case lead:
		return true
	case boulder:
		return c.Place > 0 && c.try().Visited
	}
	return c.Place > 0
}

// isPhaseOfRuns says whether runs are left for who is not done, and who is done without a state has a time.
func (c Climb) isPhaseOfRuns(r Round) bool {
	if c.Phase != done {
		return len(c.Runs) < r.Size
	}
	return c.State != "" || c.best() > 0
}
