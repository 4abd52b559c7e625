package office

import (
	"slices"
	"strconv"
	"strings"

	"crux/api"
	"crux/check"
	"crux/exact"
)

// comma stands between two values in the text of a result.
const comma = ","

// CheckSheet returns the first error of a sheet, or OK.
func CheckSheet(s Sheet) api.Errno {
	e := check.First(
		checkName(s.Round),
		check.Range(s.Values, 1, MaxValues),
		check.If(s.State != open && s.State != closed, api.ErrKind),
		check.If(len(s.Results) > api.MaxClimbers, api.ErrMany),
	)
	if e != api.OK {
		return e
	}
	seen := map[string]bool{}
	return check.Each(s.Results, func(_ int, r api.Result) api.Errno {
		isAgain := seen[r.Climber]
		seen[r.Climber] = true
		return check.First(
			checkName(r.Climber),
			check.If(isAgain, api.ErrTwice),
			check.If(r.State != "" && !isState(r.State), api.ErrKind),
			check.If(!s.fits(r), api.ErrShape),
			check.Each(r.Values, func(_, value int) api.Errno {
				return check.Range(value, -api.MaxNumber, api.MaxNumber)
			}),
		)
	})
}

// Ranks returns the ranks of the results.
func Ranks(s Sheet) ([]int, api.Errno) {
	if e := CheckSheet(s); e != api.OK {
		return nil, e
	}
	return s.ranks(), api.OK
}

func (s Sheet) ranks() []int {
	var ranks []int
	for _, r := range s.Results {
		rank := 1
		for _, other := range s.Results {
			if isBetter(other, r) {
				rank++
			}
		}
		ranks = append(ranks, rank)
	}
	return ranks
}

// isBetter reports whether a result is better than another one of its sheet. Results with states have no values by which they could differ.
func isBetter(a, b api.Result) bool {
	if a.State != b.State {
		return badness(a.State) < badness(b.State)
	}
	return slices.Compare(a.Values, b.Values) > 0
}

// badness returns 0 for results without a state, and more for worse ones.
func badness(state string) int {
	return slices.Index([]string{"", dns, dnf, dsq}, state)
}

func isState(s string) bool {
	return s == dns || s == dnf || s == dsq
}

// fits reports whether a result has as many values as a sheet asks for.
func (s Sheet) fits(r api.Result) bool {
	if r.State != "" {
		return len(r.Values) == 0
	}
	return len(r.Values) == s.Values
}

// find returns the place of the result of a climber, or -1.
func (s Sheet) find(climber string) int {
	return slices.IndexFunc(s.Results, func(r api.Result) bool { return r.Climber == climber })
}

func (s Sheet) isSame(t Sheet) bool {
	return s.Round == t.Round && s.Values == t.Values && s.State == t.State &&
		slices.EqualFunc(s.Results, t.Results, isSameResult)
}

func isSameResult(a, b api.Result) bool {
	return a.Climber == b.Climber && a.State == b.State && slices.Equal(a.Values, b.Values)
}

func (s Sheet) copy() Sheet {
	s.Results = copied(s.Results, func(r api.Result) api.Result {
		r.Values = slices.Clone(r.Values)
		return r
	})
	return s
}

func printResult(r api.Result) string {
	if r.State != "" {
		return r.State
	}
	var texts []string
	for _, value := range r.Values {
		texts = append(texts, strconv.Itoa(value))
	}
	return strings.Join(texts, comma)
}

// readResult returns the result of a climber with a text, and whether it is one.
func readResult(climber, text string) (api.Result, bool) {
	if isState(text) {
		return api.Result{Climber: climber, State: text}, true
	}
	r := api.Result{Climber: climber}
	for _, word := range strings.Split(text, comma) {
		value, ok := exact.ReadShort(word)
		if !ok {
			return api.Result{}, false
		}
		r.Values = append(r.Values, value)
	}
	return r, true
}
