package contest_test

import (
	"slices"
	"testing"

	"crux/api"
	"crux/contest"
)

// P5.3: the chapter's examples 1, 4 and 5.
func TestExamplesOfReplay(t *testing.T) {
	for _, row := range []struct {
		r      contest.Round
		l      []contest.Entry
		time   int
		climbs []contest.Climb
	}{
		{leadRound(), leadLog(), 310000, []contest.Climb{
			{Phase: "done", Began: 1000, Used: 70000, Hold: 10, Plus: true},
			{Phase: "done", Began: 100000, Used: 210000, Hold: 30, Top: true},
		}},
		{boulderRound(), boulderLog(), 310000, []contest.Climb{
			{Phase: "done", Began: 10000, Tries: []contest.Try{{Attempts: 2, Zone: 2, Top: 2, Visited: true}, {Attempts: 1, Visited: true}}},
		}},
		{speedRound(), speedLog(), 22000, []contest.Climb{{Phase: "done", Began: 20000, Runs: []int{7123, 0}}}},
		{speedRound(), with(speedLog(), 4, entry(0, "false", 22000)), 22000, []contest.Climb{
			{Phase: "done", State: "dsq", Began: 20000, Runs: []int{7123}},
		}},
	} {
		s, aside, e := contest.Replay(row.r, row.l)
		want(t, "Replay", s, contest.State{Time: row.time, Climbs: row.climbs})
		want(t, "what is set aside", aside, []contest.Refusal(nil))
		want(t, "its error", e, api.OK)
	}
}

// P5.3: entries that are not legal are set aside, and do nothing.
func TestReplaySetsAside(t *testing.T) {
	r := leadRound()
	l := []contest.Entry{
		entry(0, "hold", 900, 1), entry(0, "start", 1000), entry(1, "start", 1000), entry(0, "hold", 900, 2), entry(0, "hold", 2000, 2),
		entry(0, "finish", 90000, 5), entry(0, "top", 3000), entry(0, "fall", 4000), entry(0, "fall", 5000), entry(1, "start", 5000, 1), entry(0, "bar", 5000), entry(0, "bar", 6000),
	}
	s, aside, e := contest.Replay(r, l)
	want(t, "Replay", s, contest.State{Time: 5000, Climbs: []contest.Climb{
		{Phase: "done", State: "dsq", Began: 1000, Used: 3000, Hold: 2}, {Phase: "waiting"},
	}})
	want(t, "what is set aside", aside, []contest.Refusal{
		{Number: 1, Rule: 7}, {Number: 3, Rule: 5}, {Number: 4, Rule: 1}, {Number: 6, Rule: 3}, {Number: 7, Rule: 12}, {Number: 9, Rule: 2}, {Number: 10, Rule: 6}, {Number: 12, Rule: 2},
	})
	want(t, "its error", e, api.OK)
}

// P5.3: the empty log leads to the beginning.
func TestReplayNothing(t *testing.T) {
	for _, r := range []contest.Round{leadRound(), boulderRound(), speedRound()} {
		s, aside, e := contest.Replay(r, nil)
		beginning, _ := contest.Start(r)
		want(t, "Replay", s, beginning)
		want(t, "what is set aside", aside, []contest.Refusal(nil))
		want(t, "its error", e, api.OK)
	}
}

// P5.3: the errors of Replay and Changed are those of the round and the logs.
func TestErrorsOfLogs(t *testing.T) {
	r, l := leadRound(), leadLog()
	unknown, kind, many := with(l, 2, entry(2, "x", 0)), with(l, 2, entry(0, "x", -1)), slices.Repeat(l[:1], 257)
	for _, row := range []struct {
		what string
		r    contest.Round
		l    []contest.Entry
		e    api.Errno
	}{
		{"a wrong round", contest.Round{}, unknown, api.ErrKind},
		{"a round without climbers", round("lead", 0, 1, 1), many, api.ErrEmpty},
		{"too many entries", r, many, api.ErrMany},
		{"an unknown climber", r, unknown, api.ErrUnknown},
		{"an unknown kind", r, kind, api.ErrKind},
	} {
		s, aside, e := contest.Replay(row.r, row.l)
		want(t, row.what+": the state", s, contest.State{})
		want(t, row.what+": what is set aside", aside, []contest.Refusal(nil))
		want(t, row.what+": the error of Replay", e, row.e)
		changed, e := contest.Changed(row.r, row.l, l)
		want(t, row.what+": who has changed", changed, []int(nil))
		want(t, row.what+": the error of Changed", e, row.e)
		changed, e = contest.Changed(row.r, l, row.l)
		want(t, row.what+" in the second log: who has changed", changed, []int(nil))
		want(t, row.what+" in the second log: the error of Changed", e, row.e)
	}
	_, e := contest.Changed(r, unknown, many)
	want(t, "the first log decides", e, api.ErrUnknown)
	_, e = contest.Changed(r, many, kind)
	want(t, "the first log decides", e, api.ErrMany)
}

// P5.3: who has changed has another climb.
func TestChanged(t *testing.T) {
	r, l := leadRound(), leadLog()
	for _, row := range []struct {
		what string
		a, b []contest.Entry
		want []int
	}{
		{"nothing", l, l, nil},
		{"two empty logs", nil, nil, nil},
		{"the empty log", l, nil, []int{0, 1}},
		{"the first climber", l, l[4:], []int{0}},
		{"the second climber", l[:4], l, []int{1}},
		{"a plus less", l, slices.Delete(slices.Clone(l), 2, 3), []int{0}},
		{"a fall for a top", l, with(l, 7, entry(1, "fall", 310000)), []int{1}},
		{"another time of a hold", l, with(l, 2, entry(0, "hold", 60001, 10)), nil},
		{"another time of a start", l, with(l, 1, entry(0, "start", 999)), []int{0}},
		{"another time of a fall", l, with(l, 4, entry(0, "fall", 71001)), []int{0}},
		{"what is set aside", l, append(slices.Clone(l), entry(0, "hold", 310000, 20)), nil},
		{"another limit of time", l, with(l, 4, entry(0, "fall", 99999)), []int{0}},
		{"no end of the first climb", l, with(l, 4, entry(0, "attempt", 71000)), []int{0, 1}},
	} {
		changed, e := contest.Changed(r, row.a, row.b)
		want(t, row.what, changed, row.want)
		want(t, row.what+": the error", e, api.OK)
	}
}

// P5.3: each part of a climb makes another one.
func TestChangedParts(t *testing.T) {
	b, s := round("boulder", 1, 2, 100), round("speed", 1, 3, 100)
	begun := []contest.Entry{entry(0, "start", 0, 1), entry(0, "attempt", 5), entry(0, "fall", 5), entry(0, "attempt", 5)}
	for _, row := range []struct {
		what string
		r    contest.Round
		a, b []contest.Entry
	}{
		{"visits", b, []contest.Entry{entry(0, "start", 0, 1), entry(0, "leave", 0)}, []contest.Entry{entry(0, "start", 0, 2), entry(0, "leave", 0)}},
		{"attempts", b, begun[:3], append(slices.Clone(begun), entry(0, "fall", 5))},
		{"an open attempt", b, begun, append(slices.Clone(begun), entry(0, "fall", 5))},
		{"a zone", b, begun, append(slices.Clone(begun), entry(0, "zone", 5))},
		{"a top", b, append(slices.Clone(begun), entry(0, "zone", 5), entry(0, "fall", 5)), append(slices.Clone(begun), entry(0, "zone", 5), entry(0, "top", 5))},
		{"lanes", s, []contest.Entry{entry(0, "start", 0, 1)}, []contest.Entry{entry(0, "start", 0, 2)}},
		{"runs", s, []contest.Entry{entry(0, "start", 0, 1), entry(0, "finish", 5, 2)}, []contest.Entry{entry(0, "start", 0, 1), entry(0, "finish", 5, 3)}},
		{"states", s, []contest.Entry{entry(0, "absent", 0)}, []contest.Entry{entry(0, "bar", 0)}},
		{"phases", s, nil, []contest.Entry{entry(0, "start", 0, 1), entry(0, "incident", 5)}[:1]},
	} {
		changed, _ := contest.Changed(row.r, row.a, row.b)
		want(t, row.what, changed, []int{0})
	}
	l := []contest.Entry{entry(0, "start", 0), entry(0, "hold", 5, 5), entry(0, "fall", 6)}
	changed, _ := contest.Changed(round("lead", 1, 5, 9), l, with(l, 3, entry(0, "top", 6)))
	want(t, "a top at the last hold", changed, []int{0})
}

// P5.3: any logs lead to the state to which the entries lead one by one.
func TestReplayAgainstTheModel(t *testing.T) {
	d := draw(3)
	for range 500 {
		r := d.round()
		a, b := d.log(r, 30), d.log(r, 30)
		if d.Intn(2) == 0 && len(a) > 0 {
			b = with(a, 1+d.Intn(len(a)), d.entry(r, 10))
		}
		s, aside, e := contest.Replay(r, a)
		wanted, wantedAside := modelReplay(r, a)
		want(t, "Replay", s, wanted)
		want(t, "what is set aside", aside, wantedAside)
		want(t, "its error", e, api.OK)
		other, _ := modelReplay(r, b)
		changed, e := contest.Changed(r, a, b)
		want(t, "Changed", changed, unlike(wanted, other))
		want(t, "its error", e, api.OK)
	}
}
