package contest

import (
	"iter"
	"slices"

	"crux/api"
	"crux/check"
)

// Replay returns the state behind a log, and what was set aside.
func Replay(r Round, l []Entry) (State, []Refusal, api.Errno) {
	if e := CheckLog(r, l); e != api.OK {
		return State{}, nil, e
	}
	s, aside := replay(r, l)
	return s, aside, api.OK
}

// Changed returns the climbers who have changed between two logs.
func Changed(r Round, a, b []Entry) ([]int, api.Errno) {
	if e := check.First(CheckLog(r, a), CheckLog(r, b)); e != api.OK {
		return nil, e
	}
	one, _ := replay(r, a)
	other, _ := replay(r, b)
	var changed []int
	for i, c := range one.Climbs {
		if !c.isSame(other.Climbs[i]) {
			changed = append(changed, i)
		}
	}
	return changed, api.OK
}

// numbered goes through the entries of a log with their numbers, which begin with 1.
func numbered(l []Entry) iter.Seq2[int, Entry] {
	return func(yield func(int, Entry) bool) {
		for i, e := range l {
			if !yield(i+1, e) {
				return
			}
		}
	}
}

func replay(r Round, l []Entry) (State, []Refusal) {
	b := boardOf(r, r.beginning())
	var aside []Refusal
	for n, e := range numbered(l) {
		if rule := b.refusal(e); rule > 0 {
			aside = append(aside, Refusal{Number: n, Rule: rule})
			continue
		}
		b.enter(e)
	}
	return b.State, aside
}

func (c Climb) isSame(d Climb) bool {
	return c.Phase == d.Phase && c.State == d.State &&
		c.Place == d.Place && c.Began == d.Began && c.Used == d.Used &&
		c.Hold == d.Hold && c.Plus == d.Plus && c.Top == d.Top && c.Open == d.Open &&
		slices.Equal(c.Tries, d.Tries) && slices.Equal(c.Runs, d.Runs)
}
