package contest

import "slices"

// The kinds of entries.
const (
	start      = "start"
	hold       = "hold"
	plus       = "plus"
	attempt    = "attempt"
	zone       = "zone"
	top        = "top"
	fall       = "fall"
	leave      = "leave"
	out        = "out"
	finish     = "finish"
	falseStart = "false"
	incident   = "incident"
	absent     = "absent"
	bar        = "bar"
)

// act is what a legal entry makes of the climb of its climber.
type act func(r Round, c *Climb, e Entry)

// kind is a kind of entries: whether it has a value, and what it does in each discipline that has it.
type kind struct {
	hasValue bool
	lead     act
	boulder  act
	speed    act
}

// kinds returns the kinds of entries by their names.
func kinds() map[string]kind {
	return map[string]kind{
		start:      {hasValue: true, lead: begin, boulder: visit, speed: begin},
		hold:       {hasValue: true, lead: control},
		plus:       {lead: reach},
		attempt:    {boulder: try},
		zone:       {boulder: touchZone},
		top:        {lead: topRoute, boulder: topBoulder},
		fall:       {lead: endClimb, boulder: drop, speed: endRun},
		leave:      {boulder: leaveBoulder},
		out:        {lead: endClimb, boulder: leaveBoulder},
		finish:     {hasValue: true, speed: endRun},
		falseStart: {speed: endWith(dsq)},
		incident:   {lead: climbAgain, boulder: takeBack, speed: wait},
		absent:     {lead: endWith(dns), boulder: endWith(dns), speed: endWith(dns)},
		bar:        {lead: endWith(dsq), boulder: endWith(dsq), speed: endWith(dsq)},
	}
}

// in returns what a kind does in a discipline, or nil if it is not of this discipline.
func (k kind) in(discipline string) act {
	switch discipline {
	case lead:
		return k.lead
	case boulder:
		return k.boulder
	}
	return k.speed
}

// try returns what the climber, who is on, has done at the boulder.
func (c Climb) try() *Try {
	return &c.Tries[c.Place-1]
}

// best returns the least time of a run that has one, or 0.
func (c Climb) best() int {
	least := 0
	for _, time := range c.Runs {
		if time > 0 && (least == 0 || time < least) {
			least = time
		}
	}
	return least
}

func begin(_ Round, c *Climb, e Entry) {
	c.Phase, c.Place, c.Began = on, e.Value, e.Time
}

func visit(r Round, c *Climb, e Entry) {
	begin(r, c, e)
	c.try().Visited = true
}

func control(_ Round, c *Climb, e Entry) {
	c.Hold, c.Plus = e.Value, false
}

func reach(_ Round, c *Climb, _ Entry) {
	c.Plus = true
}

func try(_ Round, c *Climb, _ Entry) {
	c.Open = true
	c.try().Attempts++
}

func touchZone(_ Round, c *Climb, _ Entry) {
	c.try().Zone = c.try().Attempts
}

func topRoute(r Round, c *Climb, e Entry) {
	c.Top = true
	endClimb(r, c, e)
}

func topBoulder(_ Round, c *Climb, _ Entry) {
	t := c.try()
	t.Top = t.Attempts
	if t.Zone == 0 {
		t.Zone = t.Attempts
	}
	c.Open = false
}

func endClimb(r Round, c *Climb, e Entry) {
	c.Phase, c.Used = done, min(e.Time-c.Began, r.Limit)
}

func drop(_ Round, c *Climb, _ Entry) {
	c.Open = false
}

func leaveBoulder(_ Round, c *Climb, _ Entry) {
	c.Phase = done
	if slices.ContainsFunc(c.Tries, func(t Try) bool { return !t.Visited }) {
		c.Phase = waiting
	}
}

// endRun ends a run with the value of the entry as its time: that of a fall is 0, as is that of a run without a time.
func endRun(r Round, c *Climb, e Entry) {
	c.Phase, c.Runs = waiting, append(c.Runs, e.Value)
	if len(c.Runs) < r.Size {
		return
	}
	c.Phase = done
	if c.best() == 0 {
		c.State = dnf
	}
}

func climbAgain(r Round, c *Climb, e Entry) {
	c.Hold, c.Plus = 0, false
	wait(r, c, e)
}

func takeBack(_ Round, c *Climb, _ Entry) {
	t := c.try()
	if t.Zone == t.Attempts {
		t.Zone = 0
	}
	t.Attempts--
	c.Open = false
}

func wait(_ Round, c *Climb, _ Entry) {
	c.Phase = waiting
}

// endWith returns what ends everything with a state.
func endWith(state string) act {
	return func(_ Round, c *Climb, _ Entry) { c.Phase, c.State = done, state }
}
