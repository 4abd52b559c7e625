package contest_test

import (
	"slices"
	"strconv"
	"strings"
	"testing"

	"crux/api"
	"crux/contest"
	"crux/number"
)

// behind returns the state behind a log, whatever is set aside.
func behind(t *testing.T, r contest.Round, l []contest.Entry) contest.State {
	t.Helper()
	s, _, e := contest.Replay(r, l)
	want(t, "the error of Replay", e, api.OK)
	return s
}

// sheets returns the sheets of all climbers.
func sheets(t *testing.T, r contest.Round, s contest.State) []string {
	t.Helper()
	var l []string
	for i := range r.Climbers {
		text, e := contest.Sheet(r, s, i)
		want(t, "the error of Sheet", e, api.OK)
		l = append(l, text)
	}
	return l
}

// P5.5: the chapter's examples 1, 3, 4 and 5.
func TestExamplesOfSheets(t *testing.T) {
	l := leadLog()
	for _, row := range []struct {
		r       contest.Round
		l       []contest.Entry
		sheets  []string
		results []api.Result
	}{
		{leadRound(), l, []string{"10+", "TOP"}, []api.Result{
			{Climber: "ann", Values: []int{21, -70000}}, {Climber: "ben", Values: []int{62, -210000}},
		}},
		{leadRound(), slices.Delete(slices.Clone(l), 2, 3), []string{"10", "TOP"}, []api.Result{
			{Climber: "ann", Values: []int{20, -70000}}, {Climber: "ben", Values: []int{62, -210000}},
		}},
		{leadRound(), with(l, 7, entry(1, "fall", 310000)), []string{"10+", "30"}, []api.Result{
			{Climber: "ann", Values: []int{21, -70000}}, {Climber: "ben", Values: []int{60, -210000}},
		}},
		{boulderRound(), boulderLog(), []string{"T2 Z2 / - -"}, []api.Result{{Climber: "ann", Values: []int{1, 1, -2, -2}}}},
		{speedRound(), speedLog(), []string{"7.123"}, []api.Result{{Climber: "ann", Values: []int{-7123}}}},
		{speedRound(), with(speedLog(), 4, entry(0, "false", 22000)), []string{"dsq 7.123"}, []api.Result{{Climber: "ann", State: "dsq"}}},
	} {
		s := behind(t, row.r, row.l)
		want(t, "the sheets", sheets(t, row.r, s), row.sheets)
		results, e := contest.Results(row.r, s)
		want(t, "the results", results, row.results)
		want(t, "their error", e, api.OK)
		open, e := contest.Waiting(row.r, s)
		want(t, "who is not done", open, []int(nil))
		want(t, "its error", e, api.OK)
	}
}

// P5.5: what is on the sheet of a climber of lead.
func TestSheetsOfLead(t *testing.T) {
	r := round("lead", 1, 64, 360000)
	for _, row := range []struct {
		c      contest.Climb
		ticket number.Ticket
		sheet  string
		values []int
	}{
		{contest.Climb{Phase: "waiting"}, number.Ticket{Discipline: "lead"}, "0", nil},
		{contest.Climb{Phase: "on", Hold: 9, Plus: true}, number.Ticket{Discipline: "lead", Hold: 9, Plus: true}, "9+", nil},
		{contest.Climb{Phase: "done"}, number.Ticket{Discipline: "lead"}, "0", []int{0, 0}},
		{contest.Climb{Phase: "done", Plus: true, Used: 5}, number.Ticket{Discipline: "lead", Plus: true}, "0+", []int{1, -5}},
		{contest.Climb{Phase: "done", Hold: 64, Used: 360000}, number.Ticket{Discipline: "lead", Hold: 64}, "64", []int{128, -360000}},
		{contest.Climb{Phase: "done", Hold: 63, Plus: true, Used: 7}, number.Ticket{Discipline: "lead", Hold: 63, Plus: true}, "63+", []int{127, -7}},
		{contest.Climb{Phase: "done", Hold: 64, Plus: true, Used: 7}, number.Ticket{Discipline: "lead", Hold: 64, Plus: true}, "64+", []int{129, -7}},
		{contest.Climb{Phase: "done", Hold: 64, Top: true, Used: 7}, number.Ticket{Discipline: "lead", Top: 1}, "TOP", []int{130, -7}},
		{contest.Climb{Phase: "done", Hold: 3, Plus: true, Top: true, Used: 7}, number.Ticket{Discipline: "lead", Top: 1}, "TOP", []int{130, -7}},
		{contest.Climb{Phase: "done", State: "dns"}, number.Ticket{Discipline: "lead"}, "dns 0", []int{}},
		{contest.Climb{Phase: "done", State: "dsq", Hold: 64, Top: true}, number.Ticket{Discipline: "lead", Top: 1}, "dsq TOP", []int{}},
		{contest.Climb{Phase: "done", State: "dnf", Hold: 5, Plus: true}, number.Ticket{Discipline: "lead", Hold: 5, Plus: true}, "dnf 5+", []int{}},
	} {
		checkSheet(t, r, row.c, []number.Ticket{row.ticket}, row.sheet, row.values)
	}
}

// checkSheet examines the sheet of a climb, and its result if values are wanted; none are if the climb has a state.
func checkSheet(t *testing.T, r contest.Round, c contest.Climb, tickets []number.Ticket, sheet string, values []int) {
	t.Helper()
	s := contest.State{Climbs: []contest.Climb{c}}
	l, e := contest.Tickets(r, s, 0)
	if r.Discipline == "speed" {
		want(t, "the error of Tickets", e, api.ErrKind)
	} else {
		want(t, "the error of Tickets", e, api.OK)
	}
	want(t, "Tickets", l, tickets)
	want(t, "Sheet", sheets(t, r, s), []string{sheet})
	results, e := contest.Results(r, s)
	open, _ := contest.Waiting(r, s)
	if values == nil {
		want(t, "the error of Results", e, api.ErrOpen)
		want(t, "Results", results, []api.Result(nil))
		want(t, "Waiting", open, []int{0})
		return
	}
	want(t, "the error of Results", e, api.OK)
	want(t, "Results", results, []api.Result{{Climber: r.Climbers[0], State: c.State, Values: values}})
	want(t, "Waiting", open, []int(nil))
}

// P5.5: what is on the sheet of a climber of boulder.
func TestSheetsOfBoulder(t *testing.T) {
	r := round("boulder", 1, 3, 1)
	ticket := func(top, zone int) number.Ticket { return number.Ticket{Discipline: "boulder", Top: top, Zone: zone} }
	none, zone := contest.Try{Attempts: 3, Visited: true}, contest.Try{Attempts: 5, Zone: 3, Visited: true}
	flash, top := contest.Try{Attempts: 1, Zone: 1, Top: 1, Visited: true}, contest.Try{Attempts: 99, Zone: 7, Top: 99, Visited: true}
	for _, row := range []struct {
		phase, state string
		tries        []contest.Try
		tickets      []number.Ticket
		sheet        string
		values       []int
	}{
		{"waiting", "", make([]contest.Try, 3), []number.Ticket{ticket(0, 0), ticket(0, 0), ticket(0, 0)}, "- - / - - / - -", nil},
		{"waiting", "", []contest.Try{flash, zone, none}, []number.Ticket{ticket(1, 1), ticket(0, 3), ticket(0, 0)}, "T1 Z1 / - Z3 / - -", nil},
		{"done", "", []contest.Try{flash, zone, none}, []number.Ticket{ticket(1, 1), ticket(0, 3), ticket(0, 0)}, "T1 Z1 / - Z3 / - -", []int{1, 2, -1, -4}},
		{"done", "", []contest.Try{top, zone, top}, []number.Ticket{ticket(99, 7), ticket(0, 3), ticket(99, 7)}, "T99 Z7 / - Z3 / T99 Z7", []int{2, 3, -198, -17}},
		{"done", "", []contest.Try{none, none, none}, []number.Ticket{ticket(0, 0), ticket(0, 0), ticket(0, 0)}, "- - / - - / - -", []int{0, 0, 0, 0}},
		{"done", "", []contest.Try{flash, flash, top}, []number.Ticket{ticket(1, 1), ticket(1, 1), ticket(99, 7)}, "T1 Z1 / T1 Z1 / T99 Z7", []int{3, 3, -101, -9}},
		{"done", "dns", make([]contest.Try, 3), []number.Ticket{ticket(0, 0), ticket(0, 0), ticket(0, 0)}, "dns - - / - - / - -", []int{}},
		{"done", "dsq", []contest.Try{zone, top, none}, []number.Ticket{ticket(0, 3), ticket(99, 7), ticket(0, 0)}, "dsq - Z3 / T99 Z7 / - -", []int{}},
	} {
		checkSheet(t, r, contest.Climb{Phase: row.phase, State: row.state, Tries: row.tries}, row.tickets, row.sheet, row.values)
	}
}

// P5.5: what is on the sheet of a climber of speed.
func TestSheetsOfSpeed(t *testing.T) {
	r := round("speed", 1, 4, 1)
	for _, row := range []struct {
		phase, state string
		runs         []int
		sheet        string
		values       []int
	}{
		{"waiting", "", nil, "-", nil},
		{"waiting", "", []int{0, 0}, "-", nil},
		{"waiting", "", []int{0, 8000}, "8.000", nil},
		{"done", "", []int{0, 8000, 7001, 7002}, "7.001", []int{-7001}},
		{"done", "", []int{7001, 0, 0, 8000}, "7.001", []int{-7001}},
		{"done", "", []int{1}, "0.001", []int{-1}},
		{"done", "", []int{62345}, "1:02.345", []int{-62345}},
		{"done", "", []int{api.MaxTime, 0}, "23:59:59.999", []int{-api.MaxTime}},
		{"done", "dnf", []int{0, 0, 0, 0}, "dnf -", []int{}},
		{"done", "dns", nil, "dns -", []int{}},
		{"done", "dsq", []int{9, 8}, "dsq 0.008", []int{}},
	} {
		checkSheet(t, r, contest.Climb{Phase: row.phase, State: row.state, Runs: row.runs}, nil, row.sheet, row.values)
	}
}

// P5.5: the errors of Tickets, Sheet, Results and Waiting, in their order.
func TestErrorsOfSheets(t *testing.T) {
	r := round("speed", 2, 2, 9)
	s, _ := contest.Start(r)
	wrong := contest.State{Time: -1}
	for _, row := range []struct {
		what    string
		r       contest.Round
		s       contest.State
		climber int
		tickets api.Errno
		sheet   api.Errno
		results api.Errno
		waiting api.Errno
	}{
		{"a wrong round", contest.Round{}, wrong, 7, api.ErrKind, api.ErrKind, api.ErrKind, api.ErrKind},
		{"a round without climbers", round("speed", 0, 1, 1), wrong, 7, api.ErrEmpty, api.ErrEmpty, api.ErrEmpty, api.ErrEmpty},
		{"a wrong state", r, wrong, 7, api.ErrRange, api.ErrRange, api.ErrRange, api.ErrRange},
		{"no climbs", r, contest.State{}, 0, api.ErrShape, api.ErrShape, api.ErrShape, api.ErrShape},
		{"an unknown climber", r, s, 2, api.ErrUnknown, api.ErrUnknown, api.ErrOpen, api.OK},
		{"a climber below 0", r, s, -1, api.ErrUnknown, api.ErrUnknown, api.ErrOpen, api.OK},
		{"the last climber", r, s, 1, api.ErrKind, api.OK, api.ErrOpen, api.OK},
	} {
		tickets, e := contest.Tickets(row.r, row.s, row.climber)
		want(t, row.what+": the error of Tickets", e, row.tickets)
		want(t, row.what+": Tickets", tickets, []number.Ticket(nil))
		sheet, e := contest.Sheet(row.r, row.s, row.climber)
		want(t, row.what+": the error of Sheet", e, row.sheet)
		want(t, row.what+": Sheet", sheet == "", e != api.OK)
		results, e := contest.Results(row.r, row.s)
		want(t, row.what+": the error of Results", e, row.results)
		want(t, row.what+": Results", results, []api.Result(nil))
		waiting, e := contest.Waiting(row.r, row.s)
		want(t, row.what+": the error of Waiting", e, row.waiting)
		want(t, row.what+": Waiting", len(waiting) == 0, e != api.OK)
	}
}

// P5.5: who is waiting or on is not done, and keeps the results open.
func TestWaiting(t *testing.T) {
	r := round("lead", 4, 5, 100)
	l := []contest.Entry{entry(1, "absent", 0), entry(3, "start", 5), entry(3, "fall", 6), entry(2, "start", 7)}
	s := behind(t, r, l)
	open, e := contest.Waiting(r, s)
	want(t, "Waiting", open, []int{0, 2})
	want(t, "its error", e, api.OK)
	_, e = contest.Results(r, s)
	want(t, "the error of Results", e, api.ErrOpen)
	s = behind(t, r, append(l, entry(2, "fall", 8), entry(0, "bar", 9)))
	results, e := contest.Results(r, s)
	want(t, "Results", results, []api.Result{{Climber: "c0", State: "dsq"}, {Climber: "c1", State: "dns"}, {Climber: "c2", Values: []int{0, -1}}, {Climber: "c3", Values: []int{0, -1}}})
	want(t, "their error", e, api.OK)
}

// modelSheet returns the text and the values of a climb.
func modelSheet(r contest.Round, c contest.Climb) (string, []int) {
	var parts []string
	values := make([]int, 4)
	for _, t := range c.Tries {
		top, zone := "-", "-"
		if t.Top > 0 {
			top = "T" + strconv.Itoa(t.Top)
			values[0], values[2] = values[0]+1, values[2]-t.Top
		}
		if t.Zone > 0 {
			zone = "Z" + strconv.Itoa(t.Zone)
			values[1], values[3] = values[1]+1, values[3]-t.Zone
		}
		parts = append(parts, top+" "+zone)
	}
	text := strings.Join(parts, " / ")
	switch r.Discipline {
	case "lead":
		text = strconv.Itoa(c.Hold)
		values = []int{2 * c.Hold, -c.Used}
		if c.Plus {
			text, values[0] = text+"+", values[0]+1
		}
		if c.Top {
			text, values[0] = "TOP", 2*r.Size+2
		}
	case "speed":
		text, values = "-", []int{0}
		times := slices.DeleteFunc(slices.Clone(c.Runs), func(run int) bool { return run == 0 })
		if len(times) > 0 {
			values[0] = -slices.Min(times)
			text, _ = number.Clock(-values[0])
		}
	}
	if c.State != "" {
		return c.State + " " + text, nil
	}
	return text, values
}

// P5.5: any valid states.
func TestSheetsAgainstTheModel(t *testing.T) {
	d := draw(5)
	for range 20000 {
		r := d.round()
		s := d.state(r)
		var open []int
		var wanted []api.Result
		for i, c := range s.Climbs {
			text, values := modelSheet(r, c)
			sheet, e := contest.Sheet(r, s, i)
			want(t, "Sheet", sheet, text)
			want(t, "its error", e, api.OK)
			wanted = append(wanted, api.Result{Climber: r.Climbers[i], State: c.State, Values: values})
			if c.Phase != "done" {
				open = append(open, i)
			}
		}
		waiting, _ := contest.Waiting(r, s)
		want(t, "Waiting", waiting, open)
		results, e := contest.Results(r, s)
		if len(open) > 0 {
			wanted = nil
		}
		want(t, "Results", results, wanted)
		want(t, "its error", e == api.ErrOpen, len(open) > 0)
	}
}
