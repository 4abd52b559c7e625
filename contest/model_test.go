package contest_test

import (
	"slices"
	"strings"

	"crux/api"
	"crux/contest"
	"crux/number"
)

// These functions follow the chapter sentence by sentence. The package is compared with them.

func outside(n, least, greatest int) bool {
	return n < least || n > greatest
}

func modelRound(r contest.Round) api.Errno {
	sizes := map[string]int{"lead": 64, "boulder": 8, "speed": 8}
	if sizes[r.Discipline] == 0 {
		return api.ErrKind
	}
	if len(r.Climbers) == 0 {
		return api.ErrEmpty
	}
	if len(r.Climbers) > 160 {
		return api.ErrMany
	}
	seen := map[string]bool{}
	for _, name := range r.Climbers {
		if !number.IsName(name) {
			return api.ErrName
		}
		if seen[name] {
			return api.ErrTwice
		}
		seen[name] = true
	}
	if outside(r.Size, 1, sizes[r.Discipline]) || outside(r.Limit, 1, api.MaxTime) {
		return api.ErrRange
	}
	return api.OK
}

func modelState(r contest.Round, s contest.State) api.Errno {
	if e := modelRound(r); e != api.OK {
		return e
	}
	if outside(s.Time, 0, api.MaxTime) {
		return api.ErrRange
	}
	if len(s.Climbs) != len(r.Climbers) {
		return api.ErrShape
	}
	taken := map[int]bool{}
	for _, c := range s.Climbs {
		if e := modelClimb(r, s.Time, c); e != api.OK {
			return e
		}
		if c.Phase == "on" {
			if taken[c.Place] {
				return api.ErrTwice
			}
			taken[c.Place] = true
		}
	}
	return api.OK
}

func modelClimb(r contest.Round, time int, c contest.Climb) api.Errno {
	isLead, isBoulder, isSpeed := r.Discipline == "lead", r.Discipline == "boulder", r.Discipline == "speed"
	if !strings.Contains(" waiting on done ", " "+c.Phase+" ") || strings.Contains(c.Phase, " ") || c.Phase == "" {
		return api.ErrKind
	}
	switch c.State {
	case "", "dns", "dnf", "dsq":
	default:
		return api.ErrKind
	}
	if c.Phase != "done" && c.State != "" {
		return api.ErrState
	}
	places := map[string]int{"boulder": r.Size, "speed": 2}[r.Discipline]
	holds := map[string]int{"lead": r.Size}[r.Discipline]
	if outside(c.Began, 0, time) || outside(c.Used, 0, r.Limit) || outside(c.Place, 0, places) || outside(c.Hold, 0, holds) {
		return api.ErrRange
	}
	if isBoulder && len(c.Tries) != r.Size || !isBoulder && len(c.Tries) > 0 || isSpeed && len(c.Runs) > r.Size || !isSpeed && len(c.Runs) > 0 {
		return api.ErrShape
	}
	for _, t := range c.Tries {
		if outside(t.Attempts, 0, 99) || outside(t.Zone, 0, t.Attempts) || outside(t.Top, 0, t.Attempts) {
			return api.ErrRange
		}
		if t.Top > 0 && t.Zone == 0 || t.Top > 0 && t.Zone > t.Top || t.Attempts > 0 && !t.Visited {
			return api.ErrForm
		}
	}
	for _, run := range c.Runs {
		if outside(run, 0, api.MaxTime) {
			return api.ErrRange
		}
	}
	if !isLead && (c.Used != 0 || c.Plus || c.Top) || !isBoulder && c.Open {
		return api.ErrForm
	}
	if c.Phase == "on" {
		if !isLead && c.Place == 0 || isBoulder && !c.Tries[c.Place-1].Visited {
			return api.ErrState
		}
	} else if c.Place != 0 || c.Open {
		return api.ErrState
	}
	if c.Open && (c.Tries[c.Place-1].Attempts == 0 || c.Tries[c.Place-1].Top != 0) {
		return api.ErrState
	}
	hasTime := slices.ContainsFunc(c.Runs, func(run int) bool { return run > 0 })
	if isSpeed && (c.Phase != "done" && len(c.Runs) == r.Size || c.Phase == "done" && c.State == "" && !hasTime) {
		return api.ErrState
	}
	return api.OK
}

func modelEntry(r contest.Round, e contest.Entry) api.Errno {
	if err := modelRound(r); err != api.OK {
		return err
	}
	switch {
	case e.Climber < 0 || e.Climber >= len(r.Climbers):
		return api.ErrUnknown
	case !slices.Contains(kinds, e.Kind):
		return api.ErrKind
	case outside(e.Value, 0, api.MaxTime) || outside(e.Time, 0, api.MaxTime):
		return api.ErrRange
	case e.Kind != "start" && e.Kind != "hold" && e.Kind != "finish" && e.Value != 0:
		return api.ErrForm
	}
	return api.OK
}

// modelRule returns the number of the first rule that an entry breaks.
func modelRule(r contest.Round, s contest.State, e contest.Entry) int {
	for rule := 1; rule <= 16; rule++ {
		if modelBroken(rule, r, s, e) {
			return rule
		}
	}
	return 0
}

func modelBroken(rule int, r contest.Round, s contest.State, e contest.Entry) bool {
	c := s.Climbs[e.Climber]
	of := map[string]string{
		"lead":    "start hold plus top fall out incident absent bar",
		"boulder": "start attempt zone top fall leave out incident absent bar",
		"speed":   "start finish false fall incident absent bar",
	}
	is := func(l string) bool { return slices.Contains(strings.Fields(l), e.Kind) }
	var t contest.Try
	if r.Discipline == "boulder" && c.Place > 0 {
		t = c.Tries[c.Place-1]
	}
	switch rule {
	case 1:
		return e.Time < s.Time
	case 2:
		if is("bar") {
			return c.State == "dsq"
		}
		return c.Phase == "done"
	case 3:
		return !is(of[r.Discipline])
	case 4:
		return is("start") && c.Phase != "waiting"
	case 5:
		for i, other := range s.Climbs {
			if is("start") && i != e.Climber && other.Phase == "on" && (r.Discipline == "lead" || other.Place == e.Value) {
				return true
			}
		}
		return false
	case 6:
		if !is("start") {
			return false
		}
		switch r.Discipline {
		case "lead":
			return e.Value != 0
		case "boulder":
			return outside(e.Value, 1, r.Size) || c.Tries[e.Value-1].Visited
		}
		return e.Value != 1 && e.Value != 2
	case 7:
		return !is("start absent bar") && c.Phase != "on"
	case 8:
		return is("hold plus attempt zone top") && e.Time-c.Began > r.Limit
	case 9:
		return is("out") && e.Time-c.Began < r.Limit
	case 10:
		return is("hold") && outside(e.Value, c.Hold+1, r.Size)
	case 11:
		return is("plus") && (c.Plus || c.Hold == r.Size)
	case 12:
		return is("top") && r.Discipline == "lead" && c.Hold != r.Size || is("zone top fall incident") && r.Discipline == "boulder" && !c.Open
	case 13:
		return is("attempt") && (c.Open || t.Top > 0 || t.Attempts == 99)
	case 14:
		return is("zone") && t.Zone > 0
	case 15:
		return is("finish") && outside(e.Value, 1, e.Time-c.Began)
	}
	visited := slices.ContainsFunc(c.Tries, func(t contest.Try) bool { return t.Visited })
	return is("absent") && (c.Phase != "waiting" || visited || len(c.Runs) > 0)
}

// modelNext returns the state behind a legal entry.
func modelNext(r contest.Round, s contest.State, e contest.Entry) contest.State {
	s = copyOf(s)
	s.Time = e.Time
	c := &s.Climbs[e.Climber]
	switch r.Discipline {
	case "lead":
		modelLead(r, c, e)
	case "boulder":
		modelBoulder(c, e)
	case "speed":
		modelSpeed(r, c, e)
	}
	switch e.Kind {
	case "start":
		c.Phase, c.Place, c.Began = "on", e.Value, e.Time
	case "absent":
		c.Phase, c.State = "done", "dns"
	case "bar", "false":
		c.Phase, c.State = "done", "dsq"
	}
	if c.Phase != "on" {
		c.Place = 0
		c.Open = false
	}
	return s
}

func modelLead(r contest.Round, c *contest.Climb, e contest.Entry) {
	switch e.Kind {
	case "hold":
		c.Hold = e.Value
		c.Plus = false
	case "plus":
		c.Plus = true
	case "top", "fall", "out":
		c.Top = c.Top || e.Kind == "top"
		c.Phase = "done"
		c.Used = e.Time - c.Began
		if c.Used > r.Limit {
			c.Used = r.Limit
		}
	case "incident":
		c.Phase = "waiting"
		c.Hold = 0
		c.Plus = false
	}
}

func modelBoulder(c *contest.Climb, e contest.Entry) {
	t := &contest.Try{}
	if c.Place > 0 {
		t = &c.Tries[c.Place-1]
	}
	switch e.Kind {
	case "start":
		c.Tries[e.Value-1].Visited = true
	case "attempt":
		c.Open = true
		t.Attempts = t.Attempts + 1
	case "zone":
		t.Zone = t.Attempts
	case "top":
		t.Top = t.Attempts
		if t.Zone == 0 {
			t.Zone = t.Top
		}
		c.Open = false
	case "fall":
		c.Open = false
	case "leave", "out":
		c.Phase = "done"
		for _, other := range c.Tries {
			if !other.Visited {
				c.Phase = "waiting"
			}
		}
	case "incident":
		c.Open = false
		if t.Zone == t.Attempts {
			t.Zone = 0
		}
		t.Attempts = t.Attempts - 1
	}
}

func modelSpeed(r contest.Round, c *contest.Climb, e contest.Entry) {
	switch e.Kind {
	case "incident":
		c.Phase = "waiting"
	case "finish", "fall":
		c.Phase = "waiting"
		c.Runs = append(c.Runs, map[string]int{"finish": e.Value}[e.Kind])
		if len(c.Runs) == r.Size {
			c.Phase = "done"
			if slices.Max(c.Runs) == 0 {
				c.State = "dnf"
			}
		}
	}
}

// modelReplay returns the state behind a log, and what is set aside.
func modelReplay(r contest.Round, l []contest.Entry) (contest.State, []contest.Refusal) {
	s, _ := contest.Start(r)
	var aside []contest.Refusal
	for i, e := range l {
		if rule := modelRule(r, s, e); rule > 0 {
			aside = append(aside, contest.Refusal{Number: i + 1, Rule: rule})
		} else {
			s = modelNext(r, s, e)
		}
	}
	return s, aside
}
