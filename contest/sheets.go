package contest

import (
	"crux/api"
	"crux/check"
	"crux/number"
)

// Tickets returns the tickets of a climber.
func Tickets(r Round, s State, climber int) ([]number.Ticket, api.Errno) {
	e := check.First(CheckState(r, s), checkClimber(r, climber), check.If(r.Discipline == speed, api.ErrKind))
	if e != api.OK {
		return nil, e
	}
	return s.Climbs[climber].tickets(r), api.OK
}

// Sheet returns the text of what a climber has done.
func Sheet(r Round, s State, climber int) (string, api.Errno) {
	if e := check.First(CheckState(r, s), checkClimber(r, climber)); e != api.OK {
		return "", e
	}
	c := s.Climbs[climber]
	text, e := c.text(r)
	if e != api.OK {
		return "", e
	}
	if c.State != "" {
		text = c.State + " " + text
	}
	return text, api.OK
}

// Results returns the results of a round.
func Results(r Round, s State) ([]api.Result, api.Errno) {
	if e := check.First(CheckState(r, s), check.If(len(s.waiting()) > 0, api.ErrOpen)); e != api.OK {
		return nil, e
	}
	var results []api.Result
	for i, c := range s.Climbs {
		x := api.Result{Climber: r.Climbers[i], State: c.State}
		if c.State == "" {
			x.Values = c.values(r)
		}
		results = append(results, x)
	}
	return results, api.OK
}

// Waiting returns the climbers who are not done.
func Waiting(r Round, s State) ([]int, api.Errno) {
	if e := CheckState(r, s); e != api.OK {
		return nil, e
	}
	return s.waiting(), api.OK
}

func (s State) waiting() []int {
	var climbers []int
	for i, c := range s.Climbs {
		if c.Phase != done {
			climbers = append(climbers, i)
		}
	}
	return climbers
}

func (c Climb) tickets(r Round) []number.Ticket {
	switch {
	case r.Discipline == boulder:
		return copied(c.Tries, func(t Try) number.Ticket {
			return number.Ticket{Discipline: boulder, Top: t.Top, Zone: t.Zone}
		})
	case c.Top:
		return []number.Ticket{{Discipline: lead, Top: 1}}
	}
	return []number.Ticket{{Discipline: lead, Hold: c.Hold, Plus: c.Plus}}
}

func (c Climb) text(r Round) (string, api.Errno) {
	switch {
	case r.Discipline != speed:
		return number.Print(c.tickets(r))
	case c.best() == 0:
		return "-", api.OK
	}
	return number.Clock(c.best())
}

// values returns what decides between climbers: the first difference does, and the greater number is better.
func (c Climb) values(r Round) []int {
	switch r.Discipline {
	case lead:
		return []int{c.height(r), -c.Used}
	case boulder:
		return c.counts()
	}
	return []int{-c.best()}
}

func (c Climb) height(r Round) int {
	switch {
	case c.Top:
		return 2*r.Size + 2
	case c.Plus:
		return 2*c.Hold + 1
	}
	return 2 * c.Hold
}

// counts returns how many boulders have a top, and a zone, and how many attempts these took.
func (c Climb) counts() []int {
	var tops, zones, topAttempts, zoneAttempts int
	for _, t := range c.Tries {
		topAttempts += t.Top
		zoneAttempts += t.Zone
		if t.Top > 0 {
			tops++
		}
		if t.Zone > 0 {
			zones++
		}
	}
	return []int{tops, zones, -topAttempts, -zoneAttempts}
}
