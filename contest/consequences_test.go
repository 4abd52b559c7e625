package contest_test

import (
	"slices"
	"testing"

	"crux/api"
	"crux/contest"
)

// P5.6: a legal entry leads to a valid state, and changes the climb of its climber alone; who is done stays so, but for a bar.
func TestLegalEntries(t *testing.T) {
	d := draw(6)
	for range 20000 {
		r := d.round()
		s := d.state(r)
		e := d.entry(r, s.Time)
		next, err := contest.Next(r, s, e)
		if err != api.OK {
			continue
		}
		want(t, "CheckState", contest.CheckState(r, next), api.OK)
		want(t, "the time", next.Time, e.Time)
		for i, c := range s.Climbs {
			if i != e.Climber {
				want(t, "the climb of another", next.Climbs[i], c)
			}
			if c.Phase == "done" {
				want(t, "who is done", next.Climbs[i].Phase, "done")
			}
		}
		if was := s.Climbs[e.Climber]; was.Phase == "done" {
			want(t, "the kind of entry behind the end", e.Kind, "bar")
			was.State = "dsq"
			want(t, "who is barred", next.Climbs[e.Climber], was)
		}
	}
}

// P5.6: a log is replayed entry by entry, or at once, with the same state; what is set aside can be left out; without refusals the times ascend.
func TestReplays(t *testing.T) {
	d := draw(7)
	for range 500 {
		r := d.round()
		l := d.log(r, 40)
		s, aside, _ := contest.Replay(r, l)
		want(t, "CheckState", contest.CheckState(r, s), api.OK)
		step, _ := contest.Start(r)
		var legal []contest.Entry
		for i, e := range l {
			isAside := slices.ContainsFunc(aside, func(x contest.Refusal) bool { return x.Number == i+1 })
			next, err := contest.Next(r, step, e)
			want(t, "whether it is set aside", err == api.ErrRule, isAside)
			if err == api.OK {
				step = next
				legal = append(legal, e)
			}
		}
		want(t, "entry by entry", step, s)
		without, none, _ := contest.Replay(r, legal)
		want(t, "without what is set aside", without, s)
		want(t, "what is set aside then", none, []contest.Refusal(nil))
		want(t, "whether the times ascend", slices.IsSortedFunc(legal, func(a, b contest.Entry) int { return a.Time - b.Time }), true)
	}
}

// P5.6: two judges with the same log have no differences, and need no ruling; a ruling that says what the entry says changes nothing.
func TestSameLogs(t *testing.T) {
	d := draw(8)
	for range 500 {
		r := d.round()
		l := d.log(r, 30)
		differ, e := contest.Differences(r, l, slices.Clone(l))
		want(t, "Differences", differ, []int(nil))
		want(t, "its error", e, api.OK)
		stand, e := contest.Reconcile(r, l, slices.Clone(l), nil)
		want(t, "Reconcile", stand, l)
		want(t, "its error", e, api.OK)
		var rulings []contest.Ruling
		for i, x := range l {
			if d.Intn(2) == 0 {
				rulings = append(rulings, ruling(i+1, x))
			}
		}
		stand, e = contest.Apply(r, l, rulings)
		want(t, "Apply", stand, l)
		want(t, "its error", e, api.OK)
		changed, _ := contest.Changed(r, l, stand)
		want(t, "Changed", changed, []int(nil))
	}
}

// P5.6: two logs agree behind reconciliation, whichever judge comes first.
func TestReconciledLogs(t *testing.T) {
	d := draw(9)
	for range 500 {
		r := d.round()
		a := d.log(r, 20)
		b := slices.Clone(a)
		for range d.Intn(3) {
			if len(b) > 0 {
				b = with(b, 1+d.Intn(len(b)), d.entry(r, 5))
			}
		}
		differ, _ := contest.Differences(r, a, b)
		other, _ := contest.Differences(r, b, a)
		want(t, "Differences the other way", other, differ)
		var rulings []contest.Ruling
		for _, n := range differ {
			rulings = append(rulings, ruling(n, a[n-1]))
		}
		one, _ := contest.Reconcile(r, a, b, rulings)
		two, e := contest.Reconcile(r, b, a, rulings)
		want(t, "Reconcile", one, a)
		want(t, "Reconcile the other way", two, a)
		want(t, "its error", e, api.OK)
	}
}

// finish makes legal entries until all climbers are done, and returns the results. The entries come at the times that they are given by late.
func finish(t *testing.T, r contest.Round, s contest.State) []api.Result {
	t.Helper()
	for i := range r.Climbers {
		for _, e := range []contest.Entry{entry(i, "out", s.Time+r.Limit), entry(i, "bar", s.Time+r.Limit)} {
			if next, err := contest.Next(r, s, e); err == api.OK && s.Climbs[i].Phase != "done" {
				s = next
			}
		}
	}
	results, e := contest.Results(r, s)
	want(t, "the error of Results", e, api.OK)
	return results
}

// P5.6: an incident leaves no trace in the results. In lead and speed the whole climb up to it is as if it had not been, in boulder the attempt.
func TestIncidents(t *testing.T) {
	lead, boulder, speed := round("lead", 2, 9, 100), round("boulder", 2, 2, 100), round("speed", 2, 2, 9)
	for _, row := range []struct {
		what                string
		r                   contest.Round
		first, taken, later []contest.Entry
	}{
		{"a climb of lead", lead, nil,
			[]contest.Entry{entry(0, "start", 1), entry(0, "hold", 2, 5), entry(0, "plus", 3), entry(0, "incident", 4)},
			[]contest.Entry{entry(0, "start", 10), entry(0, "hold", 20, 3), entry(0, "fall", 40)}},
		{"a climb of lead at the last hold", lead, nil,
			[]contest.Entry{entry(0, "start", 1), entry(0, "hold", 2, 9), entry(0, "incident", 200)},
			[]contest.Entry{entry(0, "start", 300), entry(0, "hold", 310, 9), entry(0, "top", 320)}},
		{"an attempt", boulder, []contest.Entry{entry(0, "start", 0, 1)},
			[]contest.Entry{entry(0, "attempt", 1), entry(0, "incident", 2)},
			[]contest.Entry{entry(0, "attempt", 3), entry(0, "top", 4), entry(0, "leave", 5), entry(0, "start", 6, 2), entry(0, "leave", 7)}},
		{"an attempt with the zone", boulder, []contest.Entry{entry(0, "start", 0, 1), entry(0, "attempt", 1), entry(0, "fall", 1)},
			[]contest.Entry{entry(0, "attempt", 1), entry(0, "zone", 1), entry(0, "incident", 2)},
			[]contest.Entry{entry(0, "attempt", 3), entry(0, "zone", 4), entry(0, "leave", 5), entry(0, "start", 6, 2), entry(0, "leave", 7)}},
		{"an attempt behind the zone", boulder, []contest.Entry{entry(0, "start", 0, 1), entry(0, "attempt", 1), entry(0, "zone", 1), entry(0, "fall", 1)},
			[]contest.Entry{entry(0, "attempt", 1), entry(0, "incident", 2)},
			[]contest.Entry{entry(0, "attempt", 3), entry(0, "leave", 5), entry(0, "start", 6, 2), entry(0, "leave", 7)}},
		{"a run", speed, []contest.Entry{entry(0, "start", 0, 1), entry(0, "fall", 2)},
			[]contest.Entry{entry(0, "start", 3, 2), entry(0, "incident", 5)},
			[]contest.Entry{entry(0, "start", 6, 1), entry(0, "finish", 20, 9)}},
	} {
		end := entry(1, "absent", 500)
		s := after(t, row.r, slices.Concat(row.first, row.taken, row.later, []contest.Entry{end})...)
		without := after(t, row.r, slices.Concat(row.first, row.later, []contest.Entry{end})...)
		results, e := contest.Results(row.r, s)
		want(t, row.what+": the error", e, api.OK)
		wanted, _ := contest.Results(row.r, without)
		want(t, row.what, results, wanted)
	}
}

// P5.6: in any log of a boulder an attempt with an incident can be left out.
func TestIncidentsOfBoulder(t *testing.T) {
	d := draw(10)
	r := round("boulder", 2, 3, 1000)
	for range 150 {
		var s contest.State
		for s = behind(t, r, d.log(r, 20)); ; s = behind(t, r, d.log(r, 20)) {
			if c := s.Climbs[0]; c.Phase == "on" && !c.Open && c.Tries[c.Place-1].Top == 0 {
				break
			}
		}
		taken := s
		for _, e := range []contest.Entry{entry(0, "attempt", s.Time), entry(0, "zone", s.Time), entry(0, "incident", s.Time)} {
			if next, err := contest.Next(r, taken, e); err == api.OK {
				taken = next
			}
		}
		want(t, "the state behind an attempt with an incident", taken, s)
		want(t, "the results", finish(t, r, taken), finish(t, r, s))
	}
}
