package result

import (
	"iter"
	"slices"

	"crux/api"
	"crux/check"
)

// round has the results of a round by their climbers.
type round map[string]api.Result

// field is a contest without an error, in which climbers are found by their names.
type field struct {
	names  []string // in the order of the round 0
	rounds []round
	seeds  map[string]int
}

// rule tells climbers apart: it puts the better one of two first. Its number is that of a round, or the number of rounds.
type rule struct {
	number  int
	compare func(a, b string) int
}

// CheckContest returns the first error of a contest, or OK.
func CheckContest(c Contest) api.Errno {
	switch {
	case len(c.Rounds) == 0:
		return api.ErrEmpty
	case len(c.Rounds) > api.MaxRounds:
		return api.ErrMany
	}
	e := check.Each(c.Rounds, func(i int, l []api.Result) api.Errno {
		e := CheckRound(l)
		if e != api.OK || i == 0 {
			return e
		}
		return checkAmong(l, c.Rounds[i-1])
	})
	if e != api.OK {
		return e
	}
	return c.checkSeeds()
}

// Standing returns the places of a contest.
func Standing(c Contest) ([]Place, api.Errno) {
	if e := CheckContest(c); e != api.OK {
		return nil, e
	}
	return fieldOf(c).standing(), api.OK
}

// Decides returns what tells two climbers apart: the number of a round, or that of the seeds, and who is better.
func Decides(c Contest, a, b string) (int, int, api.Errno) {
	if e := CheckContest(c); e != api.OK {
		return 0, 0, e
	}
	f := fieldOf(c)
	e := check.First(
		check.If(!f.rounds[0].has(a) || !f.rounds[0].has(b), api.ErrUnknown),
		check.If(a == b, api.ErrTwice),
	)
	if e != api.OK {
		return 0, 0, e
	}
	number, order := f.decide(a, b)
	return number, order, api.OK
}

// Ties returns the groups of climbers whom no rule tells apart.
func Ties(c Contest) ([][]string, api.Errno) {
	if e := CheckContest(c); e != api.OK {
		return nil, e
	}
	groups := make([][]string, len(c.Rounds[0]))
	for _, p := range fieldOf(c).standing() {
		groups[p.Rank-1] = append(groups[p.Rank-1], p.Climber)
	}
	isAlone := func(group []string) bool { return len(group) < 2 }
	return slices.DeleteFunc(groups, isAlone), api.OK
}

// Changed returns the climbers who have another place in another contest.
func Changed(a, b Contest) ([]string, api.Errno) {
	if e := check.First(CheckContest(a), CheckContest(b)); e != api.OK {
		return nil, e
	}
	before, after := fieldOf(a).ranks(), fieldOf(b).ranks()
	// No rank is 0, so that who is not there has another one.
	var names []string
	for name, rank := range before {
		if after[name] != rank {
			names = append(names, name)
		}
	}
	for name := range after {
		if before[name] == 0 {
			names = append(names, name)
		}
	}
	slices.Sort(names)
	return names, api.OK
}

func roundOf(l []api.Result) round {
	results := round{}
	for _, r := range l {
		results[r.Climber] = r
	}
	return results
}

func (r round) has(name string) bool {
	_, ok := r[name]
	return ok
}

// alone puts the one of two climbers first who is in the round without the other one.
func (r round) alone(a, b string) int {
	switch {
	case r.has(a) && !r.has(b):
		return -1
	case r.has(b) && !r.has(a):
		return 1
	}
	return 0
}

// compare puts the better one of two climbers first who both are in the round, or both are not.
func (r round) compare(a, b string) int {
	return compare(r[a], r[b])
}

func fieldOf(c Contest) field {
	f := field{names: climbers(c.Rounds[0]), seeds: map[string]int{}}
	for _, l := range c.Rounds {
		f.rounds = append(f.rounds, roundOf(l))
	}
	for place, name := range c.Seeds {
		f.seeds[name] = place
	}
	return f
}

// rules goes through the rules in the order in which they decide.
func (f field) rules() iter.Seq[rule] {
	return func(yield func(rule) bool) {
		for i, r := range f.rounds {
			if !yield(rule{i, r.alone}) {
				return
			}
		}
		for i, r := range slices.Backward(f.rounds) {
			if !yield(rule{i, r.compare}) {
				return
			}
		}
		yield(rule{len(f.rounds), by(f.seed)})
	}
}

// seed returns the place of a climber among the seeds, or the one behind them.
func (f field) seed(name string) int {
	if place, ok := f.seeds[name]; ok {
		return place
	}
	return len(f.seeds)
}

// decide returns the number of the first rule that tells two climbers apart, and who is better, or -1 and 0.
func (f field) decide(a, b string) (int, int) {
	number, order := -1, 0
search:
	for r := range f.rules() {
		switch order = r.compare(a, b); order {
		case -1, 1:
			number = r.number
			break search
		}
	}
	return number, order
}

func (f field) standing() []Place {
	return placed(f.names, ranks(f.names, func(a, b string) int {
		_, order := f.decide(a, b)
		return order
	}))
}

// ranks returns the ranks of the climbers by their names.
func (f field) ranks() map[string]int {
	ranks := map[string]int{}
	for _, p := range f.standing() {
		ranks[p.Climber] = p.Rank
	}
	return ranks
}

// checkAmong returns ErrUnknown if one of the climbers of results is not among those of others.
func checkAmong(l, others []api.Result) api.Errno {
	known := roundOf(others)
	return check.Each(climbers(l), func(_ int, name string) api.Errno {
		return check.If(!known.has(name), api.ErrUnknown)
	})
}

// checkSeeds returns the error of the seeds of a contest whose rounds have none.
func (c Contest) checkSeeds() api.Errno {
	if len(c.Seeds) > api.MaxClimbers {
		return api.ErrMany
	}
	known := roundOf(c.Rounds[0])
	return check.Each(c.Seeds, func(i int, name string) api.Errno {
		return check.First(
			check.If(!known.has(name), api.ErrUnknown),
			check.If(slices.Contains(c.Seeds[:i], name), api.ErrTwice),
		)
	})
}
