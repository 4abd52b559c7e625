package contest

import (
	"slices"

	"crux/api"
	"crux/check"
)

// board is the state of a round to which entries are made.
type board struct {
	State
	round Round
	kinds map[string]kind
}

// Legal returns 0 for a legal entry, or the number of the rule that refuses it.
func Legal(r Round, s State, e Entry) (int, api.Errno) {
	if err := check.First(CheckState(r, s), CheckEntry(r, e)); err != api.OK {
		return 0, err
	}
	return boardOf(r, s).refusal(e), api.OK
}

// Next returns the state behind a legal entry.
func Next(r Round, s State, e Entry) (State, api.Errno) {
	rule, err := Legal(r, s, e)
	if err = check.First(err, check.If(rule > 0, api.ErrRule)); err != api.OK {
		return State{}, err
	}
	b := boardOf(r, s)
	b.enter(e)
	return b.State, api.OK
}

// boardOf returns a board with a copy of a state.
func boardOf(r Round, s State) *board {
	s.Climbs = copied(s.Climbs, Climb.copy)
	return &board{State: s, round: r, kinds: kinds()}
}

// copied returns a list of what is copied from the elements of a list.
func copied[T, U any](l []T, copyOf func(T) U) []U {
	var copies []U
	for _, x := range l {
		copies = append(copies, copyOf(x))
	}
	return copies
}

func (c Climb) copy() Climb {
	c.Tries = copied(c.Tries, func(t Try) Try { return t })
	c.Runs = copied(c.Runs, func(time int) int { return time })
	return c
}

// enter makes a legal entry.
func (b *board) enter(e Entry) {
	c := &b.Climbs[e.Climber]
	b.kinds[e.Kind].in(b.round.Discipline)(b.round, c, e)
	b.Time = e.Time
	if c.Phase != on {
		c.Place, c.Open = 0, false
	}
}

// refusal returns the number of the first rule that an entry breaks, or 0. The rules rely on the ones before them: behind the rule 7, who does something at a boulder is there.
func (b *board) refusal(e Entry) int {
	r, c := b.round, b.Climbs[e.Climber]
	is := func(kinds ...string) bool { return slices.Contains(kinds, e.Kind) }
	end := c.Began + r.Limit
	return firstBroken(
		func() bool { return e.Time < b.Time },
		func() bool { return !is(bar) && c.Phase == done || is(bar) && c.State == dsq },
		func() bool { return b.kinds[e.Kind].in(r.Discipline) == nil },
		func() bool { return is(start) && c.Phase != waiting },
		func() bool { return is(start) && !r.isFree(b.Climbs, e.Value) },
		func() bool { return is(start) && !r.canStart(c, e.Value) },
		func() bool { return !is(start, absent, bar) && c.Phase != on },
		func() bool { return is(hold, plus, attempt, zone, top) && e.Time > end },
		func() bool { return is(out) && e.Time < end },
		func() bool { return is(hold) && (e.Value <= c.Hold || e.Value > r.Size) },
		func() bool { return is(plus) && (c.Plus || c.Hold >= r.Size) },
		func() bool { return r.isEarly(c, e.Kind) },
		func() bool { return is(attempt) && !c.canTry() },
		func() bool { return is(zone) && c.try().Zone > 0 },
		func() bool { return is(finish) && (e.Value < 1 || e.Value > e.Time-c.Began) },
		func() bool { return is(absent) && !c.isUntouched() },
	)
}

// firstBroken returns the number of the first rule that is broken, or 0. It asks no rule behind it.
func firstBroken(rules ...func() bool) int {
	return 1 + slices.IndexFunc(rules, func(isBroken func() bool) bool { return isBroken() })
}

// isFree says whether none of some climbers is on, or, where there are places, none is on at this one.
func (r Round) isFree(climbs []Climb, place int) bool {
	free := true
search:
	for _, c := range climbs {
		switch {
		case c.Phase != on:
			continue search
		case r.Discipline == lead || c.Place == place:
			free = false
			break search
		}
	}
	return free
}

// canStart says whether a climber who is waiting may start at a place.
func (r Round) canStart(c Climb, place int) bool {
	switch r.Discipline {
	case lead:
		return place == 0
	case boulder:
		return place >= 1 && place <= r.Size && !c.Tries[place-1].Visited
	}
	return place >= 1 && place <= lanes
}

// isEarly says whether an entry comes before what has to precede it: the last hold, or an attempt.
func (r Round) isEarly(c Climb, kind string) bool {
	switch r.Discipline {
	case lead:
		return kind == top && c.Hold != r.Size
	case boulder:
		return !c.Open && slices.Contains([]string{zone, top, fall, incident}, kind)
	}
	return false
}

func (c Climb) canTry() bool {
	return !c.Open && c.try().Top == 0 && c.try().Attempts < api.MaxAttempts
}

// isUntouched says whether a climber is waiting, and has nothing at all behind.
func (c Climb) isUntouched() bool {
	visited := slices.ContainsFunc(c.Tries, func(t Try) bool { return t.Visited })
	return c.Phase == waiting && !visited && len(c.Runs) == 0
}
