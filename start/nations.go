package start

import (
	"cmp"
	"slices"

	"crux/api"
	"crux/check"
)

// Neighbours returns how many neighbours of a start list are of one nation.
func Neighbours(l []Starter, order []int) (int, api.Errno) {
	if e := CheckStarters(l); e != api.OK {
		return 0, e
	}
	if e := checkOrder(len(l), order); e != api.OK {
		return 0, e
	}
	pairs := 0
	for place, starter := range order {
		if place > 0 && l[order[place-1]].Nation == l[starter].Nation {
			pairs++
		}
	}
	return pairs, api.OK
}

// Fewest returns the least number of such neighbours.
func Fewest(l []Starter) (int, api.Errno) {
	if e := CheckStarters(l); e != api.OK {
		return 0, e
	}
	most := 0
	for _, team := range teams(l) {
		most = max(most, len(team))
	}
	// Only the largest team can be too large: each starter of another nation keeps two of it apart.
	others := len(l) - most
	return max(0, most-1-others), api.OK
}

// Apart returns a start list with the fewest such neighbours.
func Apart(l []Starter) ([]int, api.Errno) {
	if e := CheckStarters(l); e != api.OK {
		return nil, e
	}
	left := teams(l)
	var order []int
slots:
	for len(order) < len(l) {
		// The largest team comes first whenever it can: what is left of it could no longer be kept apart later on.
		slices.SortStableFunc(left, func(a, b []int) int { return cmp.Compare(len(b), len(a)) })
		for i, team := range left {
			if len(team) > 0 && !isBehindOwn(l, order, team[0]) {
				order, left[i] = append(order, team[0]), team[1:]
				continue slots
			}
		}
		order, left[0] = append(order, left[0][0]), left[0][1:]
	}
	return order, api.OK
}

// isBehindOwn says whether a starter, next in an order, would stand behind one of the same nation.
func isBehindOwn(l []Starter, order []int, starter int) bool {
	return len(order) > 0 && l[order[len(order)-1]].Nation == l[starter].Nation
}

// teams returns the starters of each nation; the nations are in the order in which they appear.
func teams(l []Starter) [][]int {
	teamOf := map[string]int{}
	var all [][]int
	for i, s := range l {
		team, isKnown := teamOf[s.Nation]
		if !isKnown {
			team = len(all)
			teamOf[s.Nation] = team
			all = append(all, nil)
		}
		all[team] = append(all[team], i)
	}
	return all
}

// checkOrder returns the error of an order for n starters.
func checkOrder(n int, order []int) api.Errno {
	e := check.Each(order, func(i, starter int) api.Errno {
		return check.First(check.If(starter < 0 || starter >= n, api.ErrUnknown), twice(order, i))
	})
	return check.First(e, check.If(len(order) < n, api.ErrNone))
}
