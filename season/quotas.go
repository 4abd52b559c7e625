package season

import (
	"slices"

	"crux/api"
	"crux/check"
)

// award is the places of a quota for those who have not withdrawn.
type award struct {
	quota   Quota
	out     map[string]bool
	places  []Place          // in the order in which they are given
	held    map[string]Place // by the climbers
	nations map[string]int   // how many places each nation has
}

// CheckQuota returns the first error of a quota, or OK.
func CheckQuota(q Quota) api.Errno {
	if len(q.Lists) > MaxRules {
		return api.ErrMany
	}
	e := check.Each(q.Lists, func(i int, l List) api.Errno {
		isSame := func(before List) bool { return before.Name == l.Name }
		return check.First(
			checkName(l.Name),
			check.If(slices.ContainsFunc(q.Lists[:i], isSame), api.ErrTwice),
			check.Range(l.Count, 0, api.MaxClimbers),
			checkEntries(l.Entries),
		)
	})
	return check.First(e, check.Range(q.Cap, 1, api.MaxClimbers))
}

// Places returns the places that are given.
func Places(q Quota, withdrawn []string) ([]Place, api.Errno) {
	if e := check.First(CheckQuota(q), checkWithdrawn(withdrawn)); e != api.OK {
		return nil, e
	}
	return awardOf(q, withdrawn).places, api.OK
}

// Open returns the places of each rule that nobody has.
func Open(q Quota, withdrawn []string) ([]int, api.Errno) {
	if e := check.First(CheckQuota(q), checkWithdrawn(withdrawn)); e != api.OK {
		return nil, e
	}
	open := apply(q.Lists, func(l List) int { return l.Count })
	for _, p := range awardOf(q, withdrawn).places {
		open[p.Rule]--
	}
	return open, api.OK
}

// Next returns the climber who is the next one for a place of a rule.
func Next(q Quota, withdrawn []string, rule int) (string, api.Errno) {
	e := check.First(
		CheckQuota(q),
		checkWithdrawn(withdrawn),
		check.If(rule < 0 || rule >= len(q.Lists), api.ErrUnknown),
	)
	if e != api.OK {
		return "", e
	}
	l := q.Lists[rule].Entries
	i := slices.IndexFunc(l, awardOf(q, withdrawn).permits)
	if i < 0 {
		return "", api.ErrNone
	}
	return l[i].Climber, api.OK
}

// Withdraw returns who loses a place, and who gets one, if a climber withdraws, too.
func Withdraw(q Quota, withdrawn []string, climber string) ([]string, []string, api.Errno) {
	if e := check.First(CheckQuota(q), checkWithdrawn(withdrawn), checkName(climber)); e != api.OK {
		return nil, nil, e
	}
	now := awardOf(q, withdrawn)
	if !now.has(climber) {
		return nil, nil, api.ErrNone
	}
	then := awardOf(q, append(slices.Clone(withdrawn), climber))
	return now.without(then), then.without(now), api.OK
}

func awardOf(q Quota, withdrawn []string) *award {
	a := &award{quota: q, out: map[string]bool{}, held: map[string]Place{}, nations: map[string]int{}}
	for _, name := range withdrawn {
		a.out[name] = true
	}
	a.give()
	return a
}

// give gives the places rule by rule.
func (a *award) give() {
rules:
	for rule, l := range a.quota.Lists {
		left := l.Count
		for _, x := range l.Entries {
			if left == 0 {
				continue rules
			}
			if a.permits(x) {
				p := Place{Climber: x.Climber, Rule: rule}
				a.places = append(a.places, p)
				a.held[x.Climber] = p
				a.nations[x.Nation]++
				left--
			}
		}
	}
}

// permits returns whether the climber of an entry may get a place.
func (a *award) permits(x Entry) bool {
	return !a.out[x.Climber] && !a.has(x.Climber) && a.nations[x.Nation] < a.quota.Cap
}

// has returns whether a climber has a place. That of nobody stands for none.
func (a *award) has(climber string) bool {
	return a.held[climber] != Place{}
}

// without returns the names of those who have a place, but none in another award.
func (a *award) without(other *award) []string {
	var names []string
	for _, p := range a.places {
		if !other.has(p.Climber) {
			names = append(names, p.Climber)
		}
	}
	slices.Sort(names)
	return names
}

func checkEntries(l []Entry) api.Errno {
	if len(l) > api.MaxClimbers {
		return api.ErrMany
	}
	return check.Each(l, func(i int, x Entry) api.Errno {
		isSame := func(before Entry) bool { return before.Climber == x.Climber }
		return check.First(
			checkName(x.Climber),
			checkName(x.Nation),
			check.If(slices.ContainsFunc(l[:i], isSame), api.ErrTwice),
		)
	})
}

// checkWithdrawn returns the error of those who have withdrawn.
func checkWithdrawn(l []string) api.Errno {
	if len(l) > api.MaxList {
		return api.ErrMany
	}
	return check.Each(l, func(i int, name string) api.Errno {
		return check.First(checkName(name), check.If(slices.Contains(l[:i], name), api.ErrTwice))
	})
}
