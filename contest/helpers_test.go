package contest_test

import (
	"math/rand"
	"reflect"
	"strconv"
	"testing"

	"crux/api"
	"crux/contest"
)

// kinds are all kinds of entries.
var kinds = []string{"start", "hold", "plus", "attempt", "zone", "top", "fall", "leave", "out", "finish", "false", "incident", "absent", "bar"}

// want reports a result that is not the wanted one. Nil and empty lists are equal, wherever they are.
func want(t *testing.T, what string, got, wanted any) {
	t.Helper()
	if !alike(reflect.ValueOf(got), reflect.ValueOf(wanted)) {
		t.Errorf("%s: got %+v, want %+v", what, got, wanted)
	}
}

func alike(a, b reflect.Value) bool {
	if a.Type() != b.Type() {
		return false
	}
	switch a.Kind() {
	case reflect.Slice:
		if a.Len() != b.Len() {
			return false
		}
		for i := range a.Len() {
			if !alike(a.Index(i), b.Index(i)) {
				return false
			}
		}
		return true
	case reflect.Struct:
		for i := range a.NumField() {
			if !alike(a.Field(i), b.Field(i)) {
				return false
			}
		}
		return true
	}
	return a.Equal(b)
}

// ruleOf returns the rule by which an entry is refused in a state, or 0.
func ruleOf(t *testing.T, r contest.Round, s contest.State, e contest.Entry) int {
	t.Helper()
	rule, err := contest.Legal(r, s, e)
	if err != api.OK {
		t.Errorf("Legal(%v, %+v, %v): got error %v", r, s, e, err)
	}
	return rule
}

// entry returns an entry of a climber at a time, with the value, if there is one.
func entry(climber int, kind string, time int, value ...int) contest.Entry {
	e := contest.Entry{Climber: climber, Kind: kind, Time: time}
	for _, v := range value {
		e.Value = v
	}
	return e
}

// round returns a round with n climbers.
func round(discipline string, n, size, limit int) contest.Round {
	return contest.Round{Discipline: discipline, Climbers: climbers(n), Size: size, Limit: limit}
}

// climbers returns n names.
func climbers(n int) []string {
	var l []string
	for i := range n {
		l = append(l, "c"+strconv.Itoa(i))
	}
	return l
}

// leadRound is R of the chapter.
func leadRound() contest.Round {
	return contest.Round{Discipline: "lead", Climbers: []string{"ann", "ben"}, Size: 30, Limit: 360000}
}

// leadLog is L of the chapter.
func leadLog() []contest.Entry {
	return []contest.Entry{
		entry(0, "start", 1000), entry(0, "hold", 60000, 10), entry(0, "plus", 70000), entry(0, "fall", 71000),
		entry(1, "start", 100000), entry(1, "hold", 300000, 30), entry(1, "top", 310000),
	}
}

// boulderRound is B of the chapter.
func boulderRound() contest.Round {
	return contest.Round{Discipline: "boulder", Climbers: []string{"ann"}, Size: 2, Limit: 300000}
}

// boulderLog is the log of B.
func boulderLog() []contest.Entry {
	return []contest.Entry{
		entry(0, "start", 0, 1), entry(0, "attempt", 1000), entry(0, "fall", 2000), entry(0, "attempt", 3000),
		entry(0, "zone", 4000), entry(0, "top", 5000), entry(0, "leave", 6000), entry(0, "start", 10000, 2),
		entry(0, "attempt", 11000), entry(0, "zone", 12000), entry(0, "incident", 13000), entry(0, "attempt", 14000),
		entry(0, "out", 310000),
	}
}

// speedRound is S of the chapter.
func speedRound() contest.Round {
	return contest.Round{Discipline: "speed", Climbers: []string{"ann"}, Size: 2, Limit: 1}
}

// speedLog is the log of S.
func speedLog() []contest.Entry {
	return []contest.Entry{entry(0, "start", 0, 1), entry(0, "finish", 8000, 7123), entry(0, "start", 20000, 2), entry(0, "fall", 22000)}
}

// after returns the state behind entries that are all legal.
func after(t *testing.T, r contest.Round, l ...contest.Entry) contest.State {
	t.Helper()
	s, err := contest.Start(r)
	for _, e := range l {
		if err == api.OK {
			s, err = contest.Next(r, s, e)
		}
	}
	if err != api.OK {
		t.Fatalf("the log %v: got error %v", l, err)
	}
	return s
}

// unlike returns the climbers whose climbs are not the same.
func unlike(a, b contest.State) []int {
	var l []int
	for i := range a.Climbs {
		if !alike(reflect.ValueOf(a.Climbs[i]), reflect.ValueOf(b.Climbs[i])) {
			l = append(l, i)
		}
	}
	return l
}

// with returns a copy of a log with another entry at a number.
func with(l []contest.Entry, number int, e contest.Entry) []contest.Entry {
	l = append([]contest.Entry(nil), l...)
	l[number-1] = e
	return l
}

// copyOf returns a copy of a state that shares nothing with it.
func copyOf(s contest.State) contest.State {
	s.Climbs = append([]contest.Climb(nil), s.Climbs...)
	for i, c := range s.Climbs {
		s.Climbs[i].Tries = append([]contest.Try(nil), c.Tries...)
		s.Climbs[i].Runs = append([]int(nil), c.Runs...)
	}
	return s
}

// drawing draws rounds, logs and states.
type drawing struct {
	*rand.Rand
}

func draw(seed int64) drawing {
	return drawing{rand.New(rand.NewSource(seed))}
}

// round returns a round that is so small that its rules are often broken.
func (d drawing) round() contest.Round {
	discipline := []string{"lead", "boulder", "speed"}[d.Intn(3)]
	return round(discipline, 1+d.Intn(3), 1+d.Intn(3), 1+d.Intn(30))
}

// entry returns an entry that may come at some time.
func (d drawing) entry(r contest.Round, now int) contest.Entry {
	e := contest.Entry{Climber: d.Intn(len(r.Climbers)), Kind: kinds[d.Intn(len(kinds))], Time: max(0, now+d.Intn(9)-1)}
	if d.Intn(8) == 0 {
		e.Time = now + r.Limit + d.Intn(3) - 1
	}
	switch e.Kind {
	case "start":
		e.Value = d.Intn(r.Size+2) * min(1, d.Intn(9))
		if r.Discipline == "lead" {
			e.Value = d.Intn(9) / 8
		}
	case "hold":
		e.Value = d.Intn(r.Size + 2)
	case "finish":
		e.Value = d.Intn(12)
	}
	return e
}

// log returns a log of up to n entries. Most of them are legal.
func (d drawing) log(r contest.Round, n int) []contest.Entry {
	s, _ := contest.Start(r)
	var l []contest.Entry
	for range d.Intn(n + 1) {
		e := d.entry(r, s.Time)
		for range 12 {
			if rule, _ := contest.Legal(r, s, e); rule == 0 && (e.Kind != "bar" && e.Kind != "absent" || d.Intn(10) == 0) || d.Intn(40) == 0 {
				break
			}
			e = d.entry(r, s.Time)
		}
		l = append(l, e)
		if next, err := contest.Next(r, s, e); err == api.OK {
			s = next
		}
	}
	return l
}

// climb returns a climb that may be one of the round at a time.
func (d drawing) climb(r contest.Round, time int) contest.Climb {
	c := contest.Climb{Phase: []string{"waiting", "on", "done", "done"}[d.Intn(4)], Began: d.Intn(time + 1)}
	if c.Phase == "done" {
		c.State = []string{"", "", "dns", "dnf", "dsq"}[d.Intn(5)]
	}
	switch r.Discipline {
	case "lead":
		c.Used, c.Hold, c.Plus, c.Top = d.Intn(r.Limit+1), d.Intn(r.Size+1), d.Intn(2) == 0, d.Intn(4) == 0
	case "boulder":
		for range r.Size {
			c.Tries = append(c.Tries, d.try())
		}
		if c.Phase == "on" {
			c.Place, c.Open = 1+d.Intn(r.Size), d.Intn(2) == 0
		}
	case "speed":
		for range d.Intn(r.Size + 1) {
			c.Runs = append(c.Runs, d.Intn(2)*d.Intn(9))
		}
		if c.Phase == "on" {
			c.Place = 1 + d.Intn(2)
		}
	}
	return c
}

func (d drawing) try() contest.Try {
	t := contest.Try{Attempts: d.Intn(3) * d.Intn(3)}
	if d.Intn(9) == 0 {
		t.Attempts = 98 + d.Intn(2)
	}
	t.Zone = d.Intn(t.Attempts + 1)
	if t.Zone > 0 {
		t.Top = d.Intn(2) * (t.Zone + d.Intn(t.Attempts-t.Zone+1))
	}
	t.Visited = t.Attempts > 0 || d.Intn(2) == 0
	return t
}

// state returns a state that is valid, also one to which no log leads.
func (d drawing) state(r contest.Round) contest.State {
	for {
		s := contest.State{Time: d.Intn(40)}
		for range r.Climbers {
			s.Climbs = append(s.Climbs, d.climb(r, s.Time))
		}
		if modelState(r, s) == api.OK {
			return s
		}
	}
}
