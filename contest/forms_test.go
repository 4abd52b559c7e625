package contest_test

import (
	"math"
	"slices"
	"strconv"
	"strings"
	"testing"

	"crux/api"
	"crux/contest"
)

// P5.1: the errors of a round, in their order.
func TestCheckRound(t *testing.T) {
	twice := append(climbers(3), "c1", "1")
	for _, row := range []struct {
		what string
		r    contest.Round
		e    api.Errno
	}{
		{"lead", leadRound(), api.OK},
		{"boulder", boulderRound(), api.OK},
		{"speed", speedRound(), api.OK},
		{"the least one", round("lead", 1, 1, 1), api.OK},
		{"the greatest lead", round("lead", 160, 64, api.MaxTime), api.OK},
		{"the greatest boulder", round("boulder", 160, 8, api.MaxTime), api.OK},
		{"the greatest speed", round("speed", 160, 8, api.MaxTime), api.OK},
		{"the zero value", contest.Round{}, api.ErrKind},
		{"no discipline", round("", 1, 1, 1), api.ErrKind},
		{"another discipline", round("Lead", 0, 0, 0), api.ErrKind},
		{"no climbers", round("lead", 0, 0, 0), api.ErrEmpty},
		{"too many climbers", round("speed", 161, 0, 0), api.ErrMany},
		{"too many climbers without names", contest.Round{Discipline: "lead", Climbers: make([]string, 161)}, api.ErrMany},
		{"no name", contest.Round{Discipline: "lead", Climbers: []string{"ann", "1", "ann"}, Size: 1, Limit: 1}, api.ErrName},
		{"an empty name", contest.Round{Discipline: "lead", Climbers: []string{""}, Size: 1, Limit: 1}, api.ErrName},
		{"a long name", contest.Round{Discipline: "lead", Climbers: []string{strings.Repeat("a", 25)}, Size: 1, Limit: 1}, api.ErrName},
		{"a name twice", contest.Round{Discipline: "lead", Climbers: twice}, api.ErrTwice},
		{"a name without size", contest.Round{Discipline: "lead", Climbers: []string{"a b"}}, api.ErrName},
		{"no holds", round("lead", 1, 0, 1), api.ErrRange},
		{"too many holds", round("lead", 1, 65, 1), api.ErrRange},
		{"no boulders", round("boulder", 1, 0, 1), api.ErrRange},
		{"too many boulders", round("boulder", 1, 9, 1), api.ErrRange},
		{"no runs", round("speed", 1, 0, 1), api.ErrRange},
		{"too many runs", round("speed", 1, 9, 1), api.ErrRange},
		{"a size below 0", round("speed", 1, math.MinInt, 1), api.ErrRange},
		{"no limit", round("lead", 1, 1, 0), api.ErrRange},
		{"no limit of speed", round("speed", 1, 1, 0), api.ErrRange},
		{"a limit below 0", round("boulder", 1, 1, -1), api.ErrRange},
		{"a long limit", round("boulder", 1, 1, api.MaxTime+1), api.ErrRange},
	} {
		want(t, row.what, contest.CheckRound(row.r), row.e)
		want(t, row.what+" by the model", modelRound(row.r), row.e)
	}
}

// P5.1: the constants of the chapter.
func TestConstants(t *testing.T) {
	want(t, "constants", []int{contest.Rules, contest.Window, contest.Fee}, []int{16, 8, 50})
}

// P5.1: at the beginning the time is 0, all are waiting, and the tries are as many as boulders.
func TestStart(t *testing.T) {
	for _, row := range []struct {
		r     contest.Round
		tries []contest.Try
	}{
		{round("lead", 2, 30, 10), nil},
		{round("boulder", 2, 3, 10), make([]contest.Try, 3)},
		{round("speed", 2, 4, 10), nil},
	} {
		s, e := contest.Start(row.r)
		climb := contest.Climb{Phase: "waiting", Tries: row.tries}
		want(t, "Start", s, contest.State{Climbs: []contest.Climb{climb, climb}})
		want(t, "its error", e, api.OK)
		want(t, "CheckState", contest.CheckState(row.r, s), api.OK)
	}
	s, e := contest.Start(round("lead", 1, 0, 1))
	want(t, "Start without holds", s, contest.State{})
	want(t, "its error", e, api.ErrRange)
	s, e = contest.Start(contest.Round{Discipline: "x"})
	want(t, "Start of nothing", s, contest.State{})
	want(t, "its error", e, api.ErrKind)
}

// change is a change of a climb that gives it an error.
type change struct {
	what string
	of   func(c *contest.Climb)
	e    api.Errno
}

// checkChanges changes the last climb of a state, each time alone, and examines the errors. Of two changes at once that with the earlier error decides, as long as the list is in the order of the chapter.
func checkChanges(t *testing.T, r contest.Round, s contest.State, l []change) {
	t.Helper()
	want(t, "before the changes", contest.CheckState(r, s), api.OK)
	for _, x := range l {
		y := copyOf(s)
		x.of(&y.Climbs[len(y.Climbs)-1])
		want(t, r.Discipline+" with "+x.what, contest.CheckState(r, y), x.e)
		want(t, r.Discipline+" with "+x.what+" by the model", modelState(r, y), x.e)
	}
}

// P5.1: the errors of the time and the number of climbs, behind those of the round.
func TestCheckStateAsAWhole(t *testing.T) {
	r := leadRound()
	s, _ := contest.Start(r)
	for _, row := range []struct {
		what string
		r    contest.Round
		of   func(s *contest.State)
		e    api.Errno
	}{
		{"nothing", r, func(s *contest.State) {}, api.OK},
		{"the greatest time", r, func(s *contest.State) { s.Time = api.MaxTime }, api.OK},
		{"a wrong round", contest.Round{}, func(s *contest.State) { s.Time = -1 }, api.ErrKind},
		{"a time below 0", r, func(s *contest.State) { s.Time, s.Climbs = -1, nil }, api.ErrRange},
		{"a time above the greatest", r, func(s *contest.State) { s.Time = api.MaxTime + 1 }, api.ErrRange},
		{"no climbs", r, func(s *contest.State) { s.Climbs = nil }, api.ErrShape},
		{"a climb less", r, func(s *contest.State) { s.Climbs = s.Climbs[:1] }, api.ErrShape},
		{"a climb more", r, func(s *contest.State) { s.Climbs = append(s.Climbs, contest.Climb{}) }, api.ErrShape},
		{"an error in the first climb", r, func(s *contest.State) { s.Climbs[0].Hold, s.Climbs[1].Phase = -1, "x" }, api.ErrRange},
		{"an error in the second climb", r, func(s *contest.State) { s.Climbs[1].Phase = "x" }, api.ErrKind},
	} {
		y := copyOf(s)
		row.of(&y)
		want(t, row.what, contest.CheckState(row.r, y), row.e)
	}
}

// P5.1: the errors of a climb of lead.
func TestCheckStateOfLead(t *testing.T) {
	r := leadRound()
	s := after(t, r, leadLog()[:2]...)
	s.Climbs[0], s.Climbs[1] = s.Climbs[1], s.Climbs[0]
	checkChanges(t, r, s, []change{
		{"a plus at the last hold", func(c *contest.Climb) { c.Hold, c.Plus = 30, true }, api.OK},
		{"a top without the last hold", func(c *contest.Climb) { c.Top = true }, api.OK},
		{"what is done", func(c *contest.Climb) { c.Phase, c.Used = "done", 360000 }, api.OK},
		{"what is dns", func(c *contest.Climb) { c.Phase, c.State = "done", "dns" }, api.OK},
		{"what is dnf", func(c *contest.Climb) { c.Phase, c.State = "done", "dnf" }, api.OK},
		{"what is dsq", func(c *contest.Climb) { c.Phase, c.State = "done", "dsq" }, api.OK},
		{"no phase", func(c *contest.Climb) { c.Phase, c.State = "", "dns" }, api.ErrKind},
		{"another phase", func(c *contest.Climb) { c.Phase, c.Began = "over", -1 }, api.ErrKind},
		{"another state", func(c *contest.Climb) { c.Phase, c.State = "done", "ok" }, api.ErrKind},
		{"another state on the wall", func(c *contest.Climb) { c.State = "DNS" }, api.ErrKind},
		{"a state on the wall", func(c *contest.Climb) { c.State, c.Began = "dsq", -1 }, api.ErrState},
		{"a state of who is waiting", func(c *contest.Climb) { c.Phase, c.State = "waiting", "dns" }, api.ErrState},
		{"a start below 0", func(c *contest.Climb) { c.Began = -1 }, api.ErrRange},
		{"a start at the time", func(c *contest.Climb) { c.Began = 60000 }, api.OK},
		{"a start behind the time", func(c *contest.Climb) { c.Began = 60001 }, api.ErrRange},
		{"less than nothing used", func(c *contest.Climb) { c.Used = -1 }, api.ErrRange},
		{"more than the limit used", func(c *contest.Climb) { c.Used = 360001 }, api.ErrRange},
		{"a place", func(c *contest.Climb) { c.Place = 1 }, api.ErrRange},
		{"a hold below 0", func(c *contest.Climb) { c.Hold = -1 }, api.ErrRange},
		{"a hold above the last", func(c *contest.Climb) { c.Hold, c.Runs = 31, []int{1} }, api.ErrRange},
		{"a try", func(c *contest.Climb) { c.Tries = make([]contest.Try, 1) }, api.ErrShape},
		{"a wrong try", func(c *contest.Climb) { c.Tries = []contest.Try{{Attempts: -1}} }, api.ErrShape},
		{"a run", func(c *contest.Climb) { c.Runs = []int{-1} }, api.ErrShape},
		{"something open", func(c *contest.Climb) { c.Open = true }, api.ErrForm},
		{"something open off the wall", func(c *contest.Climb) { c.Phase, c.Open = "waiting", true }, api.ErrForm},
	})
	s.Climbs[0].Phase = "on"
	want(t, "two on the wall", contest.CheckState(r, s), api.ErrTwice)
	s.Climbs[0].Open = true
	want(t, "an error in front of it", contest.CheckState(r, s), api.ErrForm)
}

// P5.1: the errors of a climb of boulder.
func TestCheckStateOfBoulder(t *testing.T) {
	r := round("boulder", 2, 2, 300)
	s := after(t, r, entry(1, "start", 100, 2), entry(1, "attempt", 110), entry(1, "zone", 120))
	checkChanges(t, r, s, []change{
		{"nothing", func(c *contest.Climb) {}, api.OK},
		{"a place above the boulders", func(c *contest.Climb) { c.Place = 3 }, api.ErrRange},
		{"a place below 0", func(c *contest.Climb) { c.Place = -1 }, api.ErrRange},
		{"a hold", func(c *contest.Climb) { c.Hold = 1 }, api.ErrRange},
		{"too much used", func(c *contest.Climb) { c.Used = 301 }, api.ErrRange},
		{"a try less", func(c *contest.Climb) { c.Tries = c.Tries[:1] }, api.ErrShape},
		{"no tries", func(c *contest.Climb) { c.Tries, c.Used = nil, 1 }, api.ErrShape},
		{"a try more", func(c *contest.Climb) { c.Tries = append(c.Tries, contest.Try{Zone: 1}) }, api.ErrShape},
		{"a run", func(c *contest.Climb) { c.Runs = []int{1} }, api.ErrShape},
		{"less than no attempts", func(c *contest.Climb) { c.Tries[1].Attempts = -1 }, api.ErrRange},
		{"the most attempts", func(c *contest.Climb) { c.Tries[1].Attempts = 99 }, api.OK},
		{"too many attempts", func(c *contest.Climb) { c.Tries[1].Attempts = 100 }, api.ErrRange},
		{"a zone below 0", func(c *contest.Climb) { c.Tries[1].Zone = -1 }, api.ErrRange},
		{"a zone above the attempts", func(c *contest.Climb) { c.Tries[1].Zone = 2 }, api.ErrRange},
		{"a top below 0", func(c *contest.Climb) { c.Tries[1].Top = -1 }, api.ErrRange},
		{"a top above the attempts", func(c *contest.Climb) { c.Tries[1].Top, c.Tries[1].Zone = 2, 0 }, api.ErrRange},
		{"a top without a zone", func(c *contest.Climb) { c.Tries[1] = contest.Try{Attempts: 1, Top: 1, Visited: true} }, api.ErrForm},
		{"a zone above the top", func(c *contest.Climb) { c.Tries[1] = contest.Try{Attempts: 2, Zone: 2, Top: 1, Visited: true} }, api.ErrForm},
		{"attempts without a visit", func(c *contest.Climb) { c.Tries[1].Visited = false }, api.ErrForm},
		{"attempts without a visit elsewhere", func(c *contest.Climb) { c.Tries[0].Attempts = 1 }, api.ErrForm},
		{"an error of the first try", func(c *contest.Climb) { c.Tries[0].Attempts, c.Tries[1].Zone = 1, -1 }, api.ErrForm},
		{"something used", func(c *contest.Climb) { c.Used = 1 }, api.ErrForm},
		{"a plus", func(c *contest.Climb) { c.Plus, c.Place = true, 0 }, api.ErrForm},
		{"a top of lead", func(c *contest.Climb) { c.Top, c.Place = true, 0 }, api.ErrForm},
		{"no place", func(c *contest.Climb) { c.Place = 0 }, api.ErrState},
		{"no place, and nothing open", func(c *contest.Climb) { c.Place, c.Open = 0, false }, api.ErrState},
		{"a boulder without a visit", func(c *contest.Climb) { c.Place, c.Open = 1, false }, api.ErrState},
		{"a place of who is waiting", func(c *contest.Climb) { c.Phase, c.Open = "waiting", false }, api.ErrState},
		{"a place of who is done", func(c *contest.Climb) { c.Phase, c.Open = "done", false }, api.ErrState},
		{"something open of who is waiting", func(c *contest.Climb) { c.Phase, c.Place = "waiting", 0 }, api.ErrState},
		{"something open of who is done", func(c *contest.Climb) { c.Phase, c.Place = "done", 0 }, api.ErrState},
		{"who is done before all boulders", func(c *contest.Climb) { c.Phase, c.Place, c.Open = "done", 0, false }, api.OK},
		{"something open without attempts", func(c *contest.Climb) { c.Tries[1] = contest.Try{Visited: true} }, api.ErrState},
		{"something open behind a top", func(c *contest.Climb) { c.Tries[1].Top = 1 }, api.ErrState},
		{"a top, and nothing open", func(c *contest.Climb) { c.Tries[1].Top, c.Open = 1, false }, api.OK},
		{"no attempts, and nothing open", func(c *contest.Climb) { c.Tries[1], c.Open = contest.Try{Visited: true}, false }, api.OK},
		{"who waits behind all boulders", func(c *contest.Climb) {
			c.Phase, c.Place, c.Open, c.Tries[0].Visited = "waiting", 0, false, true
		}, api.OK},
	})
	s.Climbs[0] = contest.Climb{Phase: "on", Place: 1, Tries: []contest.Try{{Visited: true}, {Visited: true}}}
	want(t, "two at two boulders", contest.CheckState(r, s), api.OK)
	s.Climbs[0].Place = 2
	want(t, "two at one boulder", contest.CheckState(r, s), api.ErrTwice)
}

// P5.1: the errors of a climb of speed.
func TestCheckStateOfSpeed(t *testing.T) {
	r := round("speed", 2, 2, 300)
	s := after(t, r, entry(1, "start", 100, 2), entry(1, "finish", 110, 9), entry(1, "start", 120, 1))
	finished := func(runs ...int) func(c *contest.Climb) {
		return func(c *contest.Climb) { c.Phase, c.Place, c.Runs = "done", 0, runs }
	}
	checkChanges(t, r, s, []change{
		{"nothing", func(c *contest.Climb) {}, api.OK},
		{"the second lane", func(c *contest.Climb) { c.Place = 2 }, api.OK},
		{"a third lane", func(c *contest.Climb) { c.Place = 3 }, api.ErrRange},
		{"a lane below 0", func(c *contest.Climb) { c.Place = -1 }, api.ErrRange},
		{"a hold", func(c *contest.Climb) { c.Hold = 1 }, api.ErrRange},
		{"too much used", func(c *contest.Climb) { c.Used = 301 }, api.ErrRange},
		{"too many runs", func(c *contest.Climb) { c.Runs = []int{1, 1, 1} }, api.ErrShape},
		{"a try", func(c *contest.Climb) { c.Tries = make([]contest.Try, 1) }, api.ErrShape},
		{"a try for each run", func(c *contest.Climb) { c.Tries = make([]contest.Try, 2) }, api.ErrShape},
		{"a run below 0", func(c *contest.Climb) { c.Runs[0] = -1 }, api.ErrRange},
		{"the longest run", func(c *contest.Climb) { c.Runs[0] = api.MaxTime }, api.OK},
		{"a longer run", func(c *contest.Climb) { c.Runs[0], c.Used = api.MaxTime+1, 1 }, api.ErrRange},
		{"something used", func(c *contest.Climb) { c.Used, c.Place = 1, 0 }, api.ErrForm},
		{"a plus", func(c *contest.Climb) { c.Plus = true }, api.ErrForm},
		{"a top", func(c *contest.Climb) { c.Top = true }, api.ErrForm},
		{"something open", func(c *contest.Climb) { c.Open = true }, api.ErrForm},
		{"no lane", func(c *contest.Climb) { c.Place = 0 }, api.ErrState},
		{"a lane of who is waiting", func(c *contest.Climb) { c.Phase = "waiting" }, api.ErrState},
		{"all runs on the wall", func(c *contest.Climb) { c.Runs = []int{9, 0} }, api.ErrState},
		{"all runs of who is waiting", func(c *contest.Climb) { c.Phase, c.Place, c.Runs = "waiting", 0, []int{9, 9} }, api.ErrState},
		{"who is done", finished(0, 9), api.OK},
		{"who is done before all runs", finished(9), api.OK},
		{"who is done without a time", finished(0, 0), api.ErrState},
		{"who is done without runs", finished(), api.ErrState},
		{"who is dnf without a time", func(c *contest.Climb) { finished(0, 0)(c); c.State = "dnf" }, api.OK},
		{"who is dns without runs", func(c *contest.Climb) { finished()(c); c.State = "dns" }, api.OK},
		{"who is dnf with a time", func(c *contest.Climb) { finished(9, 9)(c); c.State = "dnf" }, api.OK},
	})
	s.Climbs[0] = contest.Climb{Phase: "on", Place: 2}
	want(t, "two in two lanes", contest.CheckState(r, s), api.OK)
	s.Climbs[0].Place = 1
	want(t, "two in one lane", contest.CheckState(r, s), api.ErrTwice)
}

// P5.1: states with any small changes have the first error of the chapter.
func TestCheckStateAgainstTheModel(t *testing.T) {
	d := draw(1)
	count := map[api.Errno]int{}
	for range 60000 {
		r := d.round()
		s := d.state(r)
		if d.Intn(4) == 0 {
			s.Climbs[d.Intn(len(s.Climbs))] = s.Climbs[d.Intn(len(s.Climbs))]
			s = copyOf(s)
		}
		for range d.Intn(3) {
			d.spoil(&s.Climbs[d.Intn(len(s.Climbs))])
		}
		e := contest.CheckState(r, s)
		count[e]++
		if wanted := modelState(r, s); e != wanted {
			t.Fatalf("CheckState(%+v, %+v): got %v, want %v", r, s, e, wanted)
		}
	}
	for _, e := range []api.Errno{api.OK, api.ErrKind, api.ErrState, api.ErrRange, api.ErrShape, api.ErrForm, api.ErrTwice} {
		want(t, "states with the error "+strconv.Itoa(int(e)), count[e] > 100, true)
	}
}

// spoil changes something of a climb.
func (d drawing) spoil(c *contest.Climb) {
	switch d.Intn(14) {
	case 0:
		c.Phase = []string{"", "waiting", "on", "done"}[d.Intn(4)]
	case 1:
		c.State = []string{"", "dns", "dsq", "dnf", "x"}[d.Intn(5)]
	case 2:
		c.Place += d.Intn(3) - 1
	case 3:
		c.Began += d.Intn(9) - 4
	case 4:
		c.Used += d.Intn(9) - 4
	case 5:
		c.Hold += d.Intn(3) - 1
	case 6:
		c.Plus = !c.Plus
	case 7:
		c.Top = !c.Top
	case 8:
		c.Open = !c.Open
	case 9:
		c.Tries = append(c.Tries, d.try())
	case 10:
		c.Runs = append(c.Runs, d.Intn(4)-1)
	case 11:
		c.Place, c.Phase = 1+d.Intn(2), "on"
	default:
		for i := range c.Tries {
			t := &c.Tries[i]
			*t = contest.Try{Attempts: t.Attempts + d.Intn(2), Zone: t.Zone + d.Intn(3) - 1, Top: t.Top + d.Intn(3) - 1, Visited: d.Intn(9) > 0}
		}
	}
}

// P5.1: the errors of an entry, in their order.
func TestCheckEntry(t *testing.T) {
	r := leadRound()
	for _, row := range []struct {
		r contest.Round
		e contest.Entry
		w api.Errno
	}{
		{r, entry(1, "start", api.MaxTime, api.MaxTime), api.OK},
		{r, entry(0, "hold", 0, 0), api.OK},
		{r, entry(0, "finish", 0, 1), api.OK},
		{r, entry(0, "attempt", 0), api.OK},
		{contest.Round{}, entry(9, "x", -1), api.ErrKind},
		{round("lead", 0, 1, 1), entry(0, "x", -1), api.ErrEmpty},
		{r, entry(2, "x", -1), api.ErrUnknown},
		{r, entry(-1, "start", 0), api.ErrUnknown},
		{r, entry(math.MaxInt, "start", 0), api.ErrUnknown},
		{r, entry(0, "", -1), api.ErrKind},
		{r, entry(0, "Start", 0), api.ErrKind},
		{r, contest.Entry{}, api.ErrKind},
		{r, entry(0, "hold", 0, -1), api.ErrRange},
		{r, entry(0, "plus", 0, -1), api.ErrRange},
		{r, entry(0, "hold", 0, api.MaxTime+1), api.ErrRange},
		{r, entry(0, "plus", -1, 1), api.ErrRange},
		{r, entry(0, "hold", api.MaxTime+1, 1), api.ErrRange},
		{r, entry(0, "hold", math.MinInt, 1), api.ErrRange},
	} {
		want(t, "CheckEntry", contest.CheckEntry(row.r, row.e), row.w)
		want(t, "CheckEntry by the model", modelEntry(row.r, row.e), row.w)
	}
	for _, kind := range kinds {
		hasValue := slices.Contains([]string{"start", "hold", "finish"}, kind)
		e := map[bool]api.Errno{true: api.OK, false: api.ErrForm}[hasValue]
		want(t, kind+" without a value", contest.CheckEntry(r, entry(0, kind, 5)), api.OK)
		want(t, kind+" with a value", contest.CheckEntry(r, entry(0, kind, 5, 1)), e)
	}
}

// P5.1: the errors of a log, in their order. Entries need not be legal.
func TestCheckLog(t *testing.T) {
	r := leadRound()
	good, bad := entry(0, "hold", 5, 3), entry(0, "x", 5)
	for _, row := range []struct {
		what string
		r    contest.Round
		l    []contest.Entry
		e    api.Errno
	}{
		{"none", r, nil, api.OK},
		{"L", r, leadLog(), api.OK},
		{"as many as possible", r, slices.Repeat([]contest.Entry{good}, 256), api.OK},
		{"a wrong round", round("lead", 1, 0, 0), []contest.Entry{bad}, api.ErrRange},
		{"a wrong round with too many", contest.Round{}, slices.Repeat([]contest.Entry{bad}, 257), api.ErrKind},
		{"too many", r, slices.Repeat([]contest.Entry{bad}, 257), api.ErrMany},
		{"a wrong one", r, []contest.Entry{good, bad, entry(7, "x", 0)}, api.ErrKind},
		{"the first wrong one", r, []contest.Entry{good, entry(7, "x", 0), bad}, api.ErrUnknown},
		{"a value that must not be", r, []contest.Entry{entry(0, "top", 0, 1)}, api.ErrForm},
	} {
		want(t, row.what, contest.CheckLog(row.r, row.l), row.e)
	}
}
