package result

import (
	"cmp"
	"slices"

	"crux/api"
	"crux/check"
	"crux/number"
)

// states are the states of results, the better ones first.
var states = [...]string{"", "dns", "dnf", "dsq"}

// unknown is the place of a state that is not there.
const unknown = -1

// CheckRound returns the first error of the results of a round, or OK.
func CheckRound(l []api.Result) api.Errno {
	if len(l) > api.MaxClimbers {
		return api.ErrMany
	}
	first := slices.IndexFunc(l, hasValues)
	return check.Each(l, func(i int, r api.Result) api.Errno {
		isSame := func(before api.Result) bool { return before.Climber == r.Climber }
		return check.First(
			checkResult(r),
			check.If(slices.ContainsFunc(l[:i], isSame), api.ErrTwice),
			check.If(first >= 0 && !fit(l[first], r), api.ErrShape),
		)
	})
}

// Compare returns -1, 0 or 1 as a result is better than, as good as or worse than another one.
func Compare(a, b api.Result) (int, api.Errno) {
	e := check.First(checkResult(a), checkResult(b), check.If(!fit(a, b), api.ErrShape))
	if e != api.OK {
		return 0, e
	}
	return compare(a, b), api.OK
}

// Rank returns the rank of each result of a round.
func Rank(l []api.Result) ([]int, api.Errno) {
	if e := CheckRound(l); e != api.OK {
		return nil, e
	}
	return ranks(l, compare), api.OK
}

// Through returns the climbers who go on.
func Through(l []api.Result, places int) ([]string, api.Errno) {
	if e := check.First(CheckRound(l), check.Range(places, 0, api.MaxClimbers)); e != api.OK {
		return nil, e
	}
	// Results with states are the worst ones: without them the others have the same ranks.
	var others []api.Result
	for _, r := range l {
		if hasValues(r) {
			others = append(others, r)
		}
	}
	var names []string
	for _, p := range placed(climbers(others), ranks(others, compare)) {
		if p.Rank <= places {
			names = append(names, p.Climber)
		}
	}
	return names, api.OK
}

// compare puts the better one of two results first.
func compare(a, b api.Result) int {
	return cmp.Or(
		cmp.Compare(badness(a.State), badness(b.State)),
		slices.Compare(b.Values, a.Values),
	)
}

// badness returns the place of a state among all states, or unknown if it is none.
func badness(state string) int {
	for i, s := range states {
		if s == state {
			return i
		}
	}
	return unknown
}

func climbers(l []api.Result) []string {
	var names []string
	for _, r := range l {
		names = append(names, r.Climber)
	}
	return names
}

func hasValues(r api.Result) bool {
	return r.State == ""
}

// fit returns whether two results have the same number of values, if both have values.
func fit(a, b api.Result) bool {
	return !hasValues(a) || !hasValues(b) || len(a.Values) == len(b.Values)
}

// checkResult returns the error of a result by itself.
func checkResult(r api.Result) api.Errno {
	e := check.First(
		check.If(!number.IsName(r.Climber), api.ErrName),
		check.If(badness(r.State) == unknown, api.ErrKind),
		check.If(!hasValues(r) && len(r.Values) > 0, api.ErrForm),
		check.If(len(r.Values) > MaxValues, api.ErrMany),
	)
	if e != api.OK {
		return e
	}
	return check.Each(r.Values, func(_, value int) api.Errno {
		return check.Range(value, -api.MaxNumber, api.MaxNumber)
	})
}
