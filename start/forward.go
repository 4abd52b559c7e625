package start

import (
	"slices"

	"crux/api"
	"crux/check"
	"crux/number"
)

// CheckResults returns the first error of results, or OK.
func CheckResults(l []api.Result) api.Errno {
	if len(l) > api.MaxClimbers {
		return api.ErrMany
	}
	return check.Each(l, func(i int, r api.Result) api.Errno {
		return check.First(
			check.If(!number.IsName(r.Climber), api.ErrName),
			check.If(hasResult(l[:i], r.Climber), api.ErrTwice),
			checkForm(r),
			checkShape(l, r),
		)
	})
}

// Forward returns who goes on by results.
func Forward(l []api.Result, quota int) ([]string, api.Errno) {
	if e := checkQuota(l, quota); e != api.OK {
		return nil, e
	}
	return forward(l, quota), api.OK
}

// Replace returns who goes on when some have withdrawn.
func Replace(l []api.Result, quota int, out []string) ([]string, api.Errno) {
	if e := check.First(checkQuota(l, quota), checkOut(l, out)); e != api.OK {
		return nil, e
	}
	var others []api.Result
	for _, r := range l {
		if !slices.Contains(out, r.Climber) {
			others = append(others, r)
		}
	}
	return forward(others, quota), api.OK
}

// forward returns those whose rank is at most the quota, the better ones first.
func forward(l []api.Result, quota int) []string {
	var order []api.Result
	for _, r := range l {
		if r.State == "" {
			order = append(order, r)
		}
	}
	slices.SortStableFunc(order, compare)
	var names []string
	rank := 1
	for i, r := range order {
		if i > 0 && compare(order[i-1], r) != 0 {
			rank = 1 + i
		}
		if rank <= quota {
			names = append(names, r.Climber)
		}
	}
	return names
}

// compare puts the better one of two results without states first.
func compare(a, b api.Result) int {
	return slices.Compare(b.Values, a.Values)
}

func hasResult(l []api.Result, name string) bool {
	return slices.ContainsFunc(l, func(r api.Result) bool { return r.Climber == name })
}

func checkForm(r api.Result) api.Errno {
	isState := slices.Contains([]string{"", "dns", "dnf", "dsq"}, r.State)
	e := check.First(
		check.If(!isState, api.ErrKind),
		check.If(r.State != "" && len(r.Values) > 0, api.ErrForm),
		check.If(len(r.Values) > api.MaxRounds, api.ErrMany),
	)
	if e != api.OK {
		return e
	}
	return check.Each(r.Values, func(_, value int) api.Errno {
		return check.Range(value, -api.MaxNumber, api.MaxNumber)
	})
}

// checkShape returns ErrShape if a result has another number of values than the first one of a list, both without states.
func checkShape(l []api.Result, r api.Result) api.Errno {
	first := slices.IndexFunc(l, func(x api.Result) bool { return x.State == "" })
	return check.If(r.State == "" && len(r.Values) != len(l[first].Values), api.ErrShape)
}

func checkQuota(l []api.Result, quota int) api.Errno {
	return check.First(CheckResults(l), check.Range(quota, 0, api.MaxClimbers))
}

// checkOut returns the error of the names of those who have withdrawn.
func checkOut(l []api.Result, out []string) api.Errno {
	if len(out) > api.MaxClimbers {
		return api.ErrMany
	}
	return check.Each(out, func(i int, name string) api.Errno {
		return check.First(check.If(!hasResult(l, name), api.ErrUnknown), twice(out, i))
	})
}
