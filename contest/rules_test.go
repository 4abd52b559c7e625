package contest_test

import (
	"testing"

	"crux/api"
	"crux/contest"
)

// asked is an entry, and the rule that refuses it.
type asked struct {
	what string
	e    contest.Entry
	rule int
}

// checkRules asks for entries in a state, and makes the legal ones.
func checkRules(t *testing.T, r contest.Round, s contest.State, l []asked) {
	t.Helper()
	for _, x := range l {
		rule, err := contest.Legal(r, s, x.e)
		want(t, x.what, rule, x.rule)
		want(t, x.what+": the error", err, api.OK)
		want(t, x.what+": the rule by the model", modelRule(r, s, x.e), x.rule)
		next, err := contest.Next(r, s, x.e)
		if x.rule > 0 {
			want(t, x.what+": the next state", next, contest.State{})
			want(t, x.what+": its error", err, api.ErrRule)
			continue
		}
		want(t, x.what+": the next state", next, modelNext(r, s, x.e))
		want(t, x.what+": its error", err, api.OK)
	}
}

// P5.2: the errors of Legal and Next are those of the round, the state and the entry, and no rule is asked before.
func TestErrorsOfLegal(t *testing.T) {
	r := leadRound()
	s, _ := contest.Start(r)
	wrong := contest.State{Time: -1}
	for _, row := range []struct {
		what string
		r    contest.Round
		s    contest.State
		e    contest.Entry
		w    api.Errno
	}{
		{"a wrong round", contest.Round{}, wrong, contest.Entry{}, api.ErrKind},
		{"a round without a limit", round("lead", 2, 30, 0), wrong, contest.Entry{}, api.ErrRange},
		{"a wrong state", r, wrong, contest.Entry{}, api.ErrRange},
		{"the state of another round", r, contest.State{}, contest.Entry{Climber: 9}, api.ErrShape},
		{"an unknown climber", r, s, entry(2, "start", 0), api.ErrUnknown},
		{"an unknown kind", r, s, entry(0, "jump", 0), api.ErrKind},
		{"a time below 0", r, s, entry(0, "start", -1), api.ErrRange},
		{"a value that must not be", r, s, entry(0, "bar", 0, 1), api.ErrForm},
	} {
		rule, err := contest.Legal(row.r, row.s, row.e)
		want(t, row.what+": the rule", rule, 0)
		want(t, row.what+": the error of Legal", err, row.w)
		next, err := contest.Next(row.r, row.s, row.e)
		want(t, row.what+": the state", next, contest.State{})
		want(t, row.what+": the error of Next", err, row.w)
	}
}

// P5.2: the chapter's example 2.
func TestExampleOfRules(t *testing.T) {
	r := leadRound()
	s := after(t, r, leadLog()[:2]...)
	checkRules(t, r, s, []asked{
		{"the hold 9", entry(0, "hold", 60000, 9), 10},
		{"a start of ben", entry(1, "start", 60000), 5},
		{"out at 100000", entry(0, "out", 100000), 9},
		{"the hold 20 behind the limit", entry(0, "hold", 361001, 20), 8},
		{"the hold 20 at the limit", entry(0, "hold", 361000, 20), 0},
	})
}

// P5.2: the rules of lead.
func TestRulesOfLead(t *testing.T) {
	r := round("lead", 3, 5, 100)
	s := after(t, r, entry(2, "start", 0), entry(2, "fall", 5), entry(0, "start", 10), entry(0, "hold", 20, 3))
	checkRules(t, r, s, []asked{
		{"before the last entry", entry(0, "hold", 19, 4), 1},
		{"any kind before the last entry", entry(2, "finish", 19, 9), 1},
		{"at the time of the last entry", entry(0, "hold", 20, 4), 0},
		{"who is done", entry(2, "start", 20), 2},
		{"who is done, of another discipline", entry(2, "leave", 20), 2},
		{"bar of who is done", entry(2, "bar", 20), 0},
		{"bar of who is waiting", entry(1, "bar", 20), 0},
		{"bar of who is on", entry(0, "bar", 20), 0},
		{"attempt", entry(0, "attempt", 20), 3},
		{"zone", entry(0, "zone", 20), 3},
		{"leave", entry(0, "leave", 20), 3},
		{"finish", entry(0, "finish", 20, 1), 3},
		{"false", entry(0, "false", 20), 3},
		{"false of who is waiting", entry(1, "false", 20), 3},
		{"start of who is on", entry(0, "start", 20), 4},
		{"start of another", entry(1, "start", 20), 5},
		{"start of another at a place", entry(1, "start", 20, 1), 5},
		{"hold of who is waiting", entry(1, "hold", 200, 9), 7},
		{"plus of who is waiting", entry(1, "plus", 20), 7},
		{"top of who is waiting", entry(1, "top", 20), 7},
		{"fall of who is waiting", entry(1, "fall", 20), 7},
		{"out of who is waiting", entry(1, "out", 20), 7},
		{"incident of who is waiting", entry(1, "incident", 20), 7},
		{"plus at the limit", entry(0, "plus", 110), 0},
		{"plus behind the limit", entry(0, "plus", 111), 8},
		{"top behind the limit", entry(0, "top", 111), 8},
		{"fall behind the limit", entry(0, "fall", 111), 0},
		{"incident behind the limit", entry(0, "incident", 111), 0},
		{"a wrong hold behind the limit", entry(0, "hold", 111, 3), 8},
		{"out before the limit", entry(0, "out", 109), 9},
		{"out at the limit", entry(0, "out", 110), 0},
		{"out behind the limit", entry(0, "out", api.MaxTime), 0},
		{"the same hold", entry(0, "hold", 20, 3), 10},
		{"the next hold", entry(0, "hold", 20, 4), 0},
		{"the last hold", entry(0, "hold", 20, 5), 0},
		{"a hold above the last", entry(0, "hold", 20, 6), 10},
		{"plus", entry(0, "plus", 20), 0},
		{"top before the last hold", entry(0, "top", 20), 12},
		{"absent of who is on", entry(0, "absent", 20), 16},
		{"absent of who is waiting", entry(1, "absent", 20), 0},
	})
	s = after(t, r, entry(0, "start", 10), entry(0, "hold", 20, 4), entry(0, "plus", 20))
	checkRules(t, r, s, []asked{
		{"a second plus", entry(0, "plus", 20), 11},
		{"a hold behind a plus", entry(0, "hold", 20, 5), 0},
	})
	s = after(t, r, entry(0, "start", 10), entry(0, "hold", 20, 5))
	checkRules(t, r, s, []asked{
		{"plus at the last hold", entry(0, "plus", 20), 11},
		{"top at the last hold", entry(0, "top", 110), 0},
	})
	s = after(t, r, entry(0, "start", 10), entry(0, "incident", 20))
	checkRules(t, r, s, []asked{
		{"start behind an incident", entry(0, "start", 20), 0},
		{"start of another behind an incident", entry(1, "start", 20), 0},
		{"start at a place", entry(1, "start", 20, 1), 6},
		{"absent behind an incident", entry(0, "absent", 20), 0},
	})
	s = after(t, r, entry(0, "bar", 10))
	checkRules(t, r, s, []asked{
		{"a second bar", entry(0, "bar", 20), 2},
		{"absent of who is barred", entry(0, "absent", 20), 2},
	})
	s = after(t, r, entry(0, "absent", 10))
	checkRules(t, r, s, []asked{
		{"bar of who is absent", entry(0, "bar", 20), 0},
		{"a second absent", entry(0, "absent", 20), 2},
	})
}

// P5.2: the rules of boulder.
func TestRulesOfBoulder(t *testing.T) {
	r := round("boulder", 3, 3, 100)
	s := after(t, r, entry(0, "start", 10, 2))
	checkRules(t, r, s, []asked{
		{"before the last entry", entry(0, "attempt", 9), 1},
		{"hold", entry(0, "hold", 10, 1), 3},
		{"plus", entry(0, "plus", 10), 3},
		{"finish", entry(0, "finish", 10, 1), 3},
		{"false", entry(0, "false", 10), 3},
		{"start of who is on", entry(0, "start", 10, 2), 4},
		{"start at the same boulder", entry(1, "start", 10, 2), 5},
		{"start at another boulder", entry(1, "start", 10, 1), 0},
		{"start at the last boulder", entry(1, "start", 10, 3), 0},
		{"start at no boulder", entry(1, "start", 10), 6},
		{"start at a boulder too much", entry(1, "start", 10, 4), 6},
		{"attempt of who is waiting", entry(1, "attempt", 200), 7},
		{"leave of who is waiting", entry(1, "leave", 10), 7},
		{"attempt at the limit", entry(0, "attempt", 110), 0},
		{"attempt behind the limit", entry(0, "attempt", 111), 8},
		{"zone without an attempt behind the limit", entry(0, "zone", 111), 8},
		{"top without an attempt behind the limit", entry(0, "top", 111), 8},
		{"leave", entry(0, "leave", 10), 0},
		{"leave behind the limit", entry(0, "leave", 111), 0},
		{"out before the limit", entry(0, "out", 109), 9},
		{"out at the limit", entry(0, "out", 110), 0},
		{"zone without an attempt", entry(0, "zone", 10), 12},
		{"top without an attempt", entry(0, "top", 10), 12},
		{"fall without an attempt", entry(0, "fall", 111), 12},
		{"incident without an attempt", entry(0, "incident", 10), 12},
		{"absent of who is on", entry(0, "absent", 10), 16},
		{"bar of who is on", entry(0, "bar", 10), 0},
	})
	s = after(t, r, entry(0, "start", 10, 2), entry(0, "attempt", 20))
	checkRules(t, r, s, []asked{
		{"an attempt more", entry(0, "attempt", 20), 13},
		{"zone", entry(0, "zone", 110), 0},
		{"zone behind the limit", entry(0, "zone", 111), 8},
		{"top", entry(0, "top", 110), 0},
		{"top behind the limit", entry(0, "top", 111), 8},
		{"fall", entry(0, "fall", 111), 0},
		{"incident", entry(0, "incident", 111), 0},
		{"leave", entry(0, "leave", 20), 0},
		{"out", entry(0, "out", 111), 0},
		{"bar", entry(0, "bar", 20), 0},
	})
	s = after(t, r, entry(0, "start", 10, 2), entry(0, "attempt", 20), entry(0, "zone", 20))
	checkRules(t, r, s, []asked{
		{"a second zone", entry(0, "zone", 20), 14},
		{"top behind a zone", entry(0, "top", 20), 0},
		{"incident behind a zone", entry(0, "incident", 20), 0},
	})
	s = after(t, r, entry(0, "start", 10, 2), entry(0, "attempt", 20), entry(0, "zone", 20), entry(0, "fall", 20), entry(0, "attempt", 30))
	checkRules(t, r, s, []asked{
		{"a second zone in another attempt", entry(0, "zone", 30), 14},
		{"incident in another attempt", entry(0, "incident", 30), 0},
		{"top in another attempt", entry(0, "top", 30), 0},
	})
	s = after(t, r, entry(0, "start", 10, 2), entry(0, "attempt", 20), entry(0, "top", 20))
	checkRules(t, r, s, []asked{
		{"an attempt behind a top", entry(0, "attempt", 20), 13},
		{"a zone behind a top", entry(0, "zone", 20), 12},
		{"leave behind a top", entry(0, "leave", 20), 0},
	})
	s = after(t, r, entry(0, "start", 10, 2), entry(0, "leave", 20))
	checkRules(t, r, s, []asked{
		{"a boulder again", entry(0, "start", 20, 2), 6},
		{"another boulder", entry(0, "start", 20, 1), 0},
		{"absent behind a boulder", entry(0, "absent", 20), 16},
		{"absent of another", entry(1, "absent", 20), 0},
		{"the boulder of another", entry(1, "start", 20, 2), 0},
	})
	s = after(t, r, entry(0, "start", 10, 2), entry(0, "leave", 20), entry(0, "start", 20, 1), entry(0, "leave", 20), entry(0, "start", 20, 3))
	checkRules(t, r, s, []asked{{"the last leave", entry(0, "leave", 20), 0}, {"the last out", entry(0, "out", 120), 0}})
}

// P5.2: there are at most 99 attempts.
func TestMostAttempts(t *testing.T) {
	r := round("boulder", 1, 1, 1000)
	s := after(t, r, entry(0, "start", 0, 1))
	s.Climbs[0].Tries[0].Attempts = 98
	s, e := contest.Next(r, s, entry(0, "attempt", 1))
	want(t, "the attempt 99", e, api.OK)
	want(t, "attempts", s.Climbs[0].Tries[0].Attempts, 99)
	s, e = contest.Next(r, s, entry(0, "fall", 1))
	want(t, "its fall", e, api.OK)
	checkRules(t, r, s, []asked{{"the attempt 100", entry(0, "attempt", 1), 13}})
}

// P5.2: the rules of speed, in which the limit does not matter.
func TestRulesOfSpeed(t *testing.T) {
	r := round("speed", 3, 2, 1)
	s := after(t, r, entry(0, "start", 10, 2), entry(2, "start", 10, 1), entry(2, "fall", 20))
	checkRules(t, r, s, []asked{
		{"before the last entry", entry(0, "finish", 19, 1), 1},
		{"hold", entry(0, "hold", 20, 1), 3},
		{"plus", entry(0, "plus", 20), 3},
		{"attempt", entry(0, "attempt", 20), 3},
		{"zone", entry(0, "zone", 20), 3},
		{"top", entry(0, "top", 20), 3},
		{"leave", entry(0, "leave", 20), 3},
		{"out", entry(0, "out", 20), 3},
		{"start of who is on", entry(0, "start", 20, 1), 4},
		{"start in the same lane", entry(1, "start", 20, 2), 5},
		{"start in the other lane", entry(1, "start", 20, 1), 0},
		{"start in no lane", entry(1, "start", 20), 6},
		{"start in a third lane", entry(1, "start", 20, 3), 6},
		{"finish of who is waiting", entry(1, "finish", 20, 5), 7},
		{"false of who is waiting", entry(1, "false", 20), 7},
		{"fall of who is waiting", entry(1, "fall", 20), 7},
		{"incident of who is waiting", entry(1, "incident", 20), 7},
		{"finish in no time", entry(0, "finish", 20), 15},
		{"finish at once", entry(0, "finish", 20, 1), 0},
		{"finish in all the time", entry(0, "finish", 20, 10), 0},
		{"finish in more time", entry(0, "finish", 20, 11), 15},
		{"false", entry(0, "false", 20), 0},
		{"fall", entry(0, "fall", 20), 0},
		{"incident", entry(0, "incident", 20), 0},
		{"absent of who is on", entry(0, "absent", 20), 16},
		{"absent of who is waiting", entry(1, "absent", 20), 0},
		{"absent behind a run", entry(2, "absent", 20), 16},
		{"bar", entry(0, "bar", 20), 0},
		{"a second run", entry(2, "start", 20, 1), 0},
	})
	s = after(t, r, entry(2, "start", 10, 1), entry(2, "fall", 20), entry(2, "start", 20, 1))
	checkRules(t, r, s, []asked{
		{"the last finish", entry(2, "finish", 25, 5), 0},
		{"the last fall", entry(2, "fall", 25), 0},
		{"a false start", entry(2, "false", 25), 0},
	})
}

// next makes an entry that is legal, and returns the climb of its climber.
func next(t *testing.T, r contest.Round, s contest.State, e contest.Entry) contest.Climb {
	t.Helper()
	s, err := contest.Next(r, s, e)
	if err != api.OK {
		t.Fatalf("Next(%v): got error %v", e, err)
	}
	want(t, "the time", s.Time, e.Time)
	return s.Climbs[e.Climber]
}

// P5.2: what entries do in lead.
func TestEntriesOfLead(t *testing.T) {
	r := round("lead", 1, 5, 100)
	s := after(t, r, entry(0, "start", 10))
	want(t, "start", s.Climbs[0], contest.Climb{Phase: "on", Began: 10})
	s = after(t, r, entry(0, "start", 10), entry(0, "hold", 20, 3), entry(0, "plus", 30))
	want(t, "plus", s.Climbs[0], contest.Climb{Phase: "on", Began: 10, Hold: 3, Plus: true})
	for _, row := range []struct {
		e contest.Entry
		c contest.Climb
	}{
		{entry(0, "hold", 40, 4), contest.Climb{Phase: "on", Began: 10, Hold: 4}},
		{entry(0, "fall", 40), contest.Climb{Phase: "done", Began: 10, Used: 30, Hold: 3, Plus: true}},
		{entry(0, "fall", 110), contest.Climb{Phase: "done", Began: 10, Used: 100, Hold: 3, Plus: true}},
		{entry(0, "fall", 111), contest.Climb{Phase: "done", Began: 10, Used: 100, Hold: 3, Plus: true}},
		{entry(0, "out", 500), contest.Climb{Phase: "done", Began: 10, Used: 100, Hold: 3, Plus: true}},
		{entry(0, "incident", 40), contest.Climb{Phase: "waiting", Began: 10}},
		{entry(0, "bar", 40), contest.Climb{Phase: "done", State: "dsq", Began: 10, Hold: 3, Plus: true}},
	} {
		want(t, row.e.Kind, next(t, r, s, row.e), row.c)
	}
	s = after(t, r, entry(0, "start", 10), entry(0, "hold", 20, 5))
	want(t, "top", next(t, r, s, entry(0, "top", 40)), contest.Climb{Phase: "done", Began: 10, Used: 30, Hold: 5, Top: true})
	s, _ = contest.Start(r)
	want(t, "absent", next(t, r, s, entry(0, "absent", 40)), contest.Climb{Phase: "done", State: "dns"})
	s = after(t, r, entry(0, "start", 10), entry(0, "fall", 20))
	want(t, "bar of who is done", next(t, r, s, entry(0, "bar", 40)), contest.Climb{Phase: "done", State: "dsq", Began: 10, Used: 10})
}

// P5.2: what entries do in boulder.
func TestEntriesOfBoulder(t *testing.T) {
	r := round("boulder", 1, 2, 100)
	on := func(open bool, tried contest.Try) contest.Climb {
		return contest.Climb{Phase: "on", Place: 2, Began: 10, Open: open, Tries: []contest.Try{{}, tried}}
	}
	off := func(phase string, tries ...contest.Try) contest.Climb {
		return contest.Climb{Phase: phase, Began: 10, Tries: tries}
	}
	s := after(t, r, entry(0, "start", 10, 2))
	want(t, "start", s.Climbs[0], on(false, contest.Try{Visited: true}))
	want(t, "leave at once", next(t, r, s, entry(0, "leave", 20)), off("waiting", contest.Try{}, contest.Try{Visited: true}))
	s = after(t, r, entry(0, "start", 10, 2), entry(0, "attempt", 20), entry(0, "fall", 20), entry(0, "attempt", 20))
	want(t, "attempt", s.Climbs[0], on(true, contest.Try{Attempts: 2, Visited: true}))
	for _, row := range []struct {
		e contest.Entry
		c contest.Climb
	}{
		{entry(0, "zone", 30), on(true, contest.Try{Attempts: 2, Zone: 2, Visited: true})},
		{entry(0, "top", 30), on(false, contest.Try{Attempts: 2, Zone: 2, Top: 2, Visited: true})},
		{entry(0, "fall", 30), on(false, contest.Try{Attempts: 2, Visited: true})},
		{entry(0, "incident", 30), on(false, contest.Try{Attempts: 1, Visited: true})},
		{entry(0, "leave", 30), off("waiting", contest.Try{}, contest.Try{Attempts: 2, Visited: true})},
		{entry(0, "out", 110), off("waiting", contest.Try{}, contest.Try{Attempts: 2, Visited: true})},
	} {
		want(t, row.e.Kind, next(t, r, s, row.e), row.c)
	}
	barred := off("done", contest.Try{}, contest.Try{Attempts: 2, Visited: true})
	barred.State = "dsq"
	want(t, "bar", next(t, r, s, entry(0, "bar", 30)), barred)
	s = after(t, r, entry(0, "start", 10, 2), entry(0, "attempt", 20), entry(0, "zone", 20))
	want(t, "incident in the attempt of the zone", next(t, r, s, entry(0, "incident", 30)), on(false, contest.Try{Visited: true}))
	s = after(t, r, entry(0, "start", 10, 2), entry(0, "attempt", 20), entry(0, "zone", 20), entry(0, "fall", 20), entry(0, "attempt", 20))
	want(t, "incident in a later attempt", next(t, r, s, entry(0, "incident", 30)), on(false, contest.Try{Attempts: 1, Zone: 1, Visited: true}))
	want(t, "top in a later attempt", next(t, r, s, entry(0, "top", 30)), on(false, contest.Try{Attempts: 2, Zone: 1, Top: 2, Visited: true}))
	s = after(t, r, entry(0, "start", 0, 1), entry(0, "leave", 5), entry(0, "start", 10, 2))
	want(t, "leave of the last boulder", next(t, r, s, entry(0, "leave", 30)), off("done", contest.Try{Visited: true}, contest.Try{Visited: true}))
	want(t, "out of the last boulder", next(t, r, s, entry(0, "out", 110)), off("done", contest.Try{Visited: true}, contest.Try{Visited: true}))
	s, _ = contest.Start(r)
	want(t, "absent", next(t, r, s, entry(0, "absent", 30)), contest.Climb{Phase: "done", State: "dns", Tries: make([]contest.Try, 2)})
}

// P5.2: what entries do in speed.
func TestEntriesOfSpeed(t *testing.T) {
	r := round("speed", 1, 2, 1)
	off := func(phase, state string, runs ...int) contest.Climb {
		return contest.Climb{Phase: phase, State: state, Began: 10, Runs: runs}
	}
	s := after(t, r, entry(0, "start", 10, 2))
	want(t, "start", s.Climbs[0], contest.Climb{Phase: "on", Place: 2, Began: 10})
	want(t, "finish", next(t, r, s, entry(0, "finish", 30, 7)), off("waiting", "", 7))
	want(t, "fall", next(t, r, s, entry(0, "fall", 30)), off("waiting", "", 0))
	want(t, "incident", next(t, r, s, entry(0, "incident", 30)), off("waiting", ""))
	want(t, "false", next(t, r, s, entry(0, "false", 30)), off("done", "dsq"))
	want(t, "bar", next(t, r, s, entry(0, "bar", 30)), off("done", "dsq"))
	s = after(t, r, entry(0, "start", 1, 1), entry(0, "fall", 5), entry(0, "start", 10, 2))
	want(t, "the last finish", next(t, r, s, entry(0, "finish", 30, 7)), off("done", "", 0, 7))
	want(t, "the last fall", next(t, r, s, entry(0, "fall", 30)), off("done", "dnf", 0, 0))
	want(t, "incident in the last run", next(t, r, s, entry(0, "incident", 30)), off("waiting", "", 0))
	want(t, "false start in the last run", next(t, r, s, entry(0, "false", 30)), off("done", "dsq", 0))
	s = after(t, r, entry(0, "start", 1, 1), entry(0, "finish", 5, 4), entry(0, "start", 10, 2))
	want(t, "the last fall behind a time", next(t, r, s, entry(0, "fall", 30)), off("done", "", 4, 0))
	s, _ = contest.Start(r)
	want(t, "absent", next(t, r, s, entry(0, "absent", 30)), contest.Climb{Phase: "done", State: "dns"})
}

// P5.2: any entries in any valid states, also those to which no log leads.
func TestRulesAgainstTheModel(t *testing.T) {
	d := draw(2)
	count := map[int]int{}
	for range 20000 {
		r := d.round()
		s := d.state(r)
		for range 4 {
			e := d.entry(r, s.Time)
			rule := modelRule(r, s, e)
			count[rule]++
			if got := ruleOf(t, r, s, e); got != rule {
				t.Fatalf("Legal(%+v, %+v, %+v): got %v, want %v", r, s, e, got, rule)
			}
			next, err := contest.Next(r, s, e)
			want(t, "the error of Next", err == api.ErrRule, rule > 0)
			if err == api.OK {
				want(t, "Next", next, modelNext(r, s, e))
			}
		}
	}
	for rule := range contest.Rules + 1 {
		if count[rule] < 20 {
			t.Errorf("the rule %v was broken %v times only", rule, count[rule])
		}
	}
}
