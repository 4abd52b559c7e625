package start

import (
	"cmp"
	"slices"

	"crux/api"
	"crux/check"
	"crux/number"
)

// CheckStarters returns the first error of starters, or OK.
func CheckStarters(l []Starter) api.Errno {
	if len(l) > api.MaxClimbers {
		return api.ErrMany
	}
	return check.Each(l, func(i int, s Starter) api.Errno {
		isSame := func(before Starter) bool { return before.Name == s.Name }
		return check.First(
			check.If(!number.IsName(s.Name), api.ErrName),
			check.If(slices.ContainsFunc(l[:i], isSame), api.ErrTwice),
			check.If(!number.IsName(s.Nation), api.ErrName),
			check.Range(s.Seed, 0, api.MaxNumber),
		)
	})
}

// Seeded returns the numbers of starters by their seeds.
func Seeded(l []Starter, key int) ([]int, api.Errno) {
	if e := CheckStarters(l); e != api.OK {
		return nil, e
	}
	return seeded(l, key)
}

// Groups returns the groups of a round.
func Groups(l []Starter, groups, key int) ([][]int, api.Errno) {
	if e := check.First(CheckStarters(l), check.Range(groups, 1, MaxGroups)); e != api.OK {
		return nil, e
	}
	order, e := seeded(l, key)
	if e != api.OK {
		return nil, e
	}
	lists := make([][]int, groups)
	for place, starter := range order {
		group := place % groups
		if place/groups%2 == 1 {
			group = groups - 1 - group
		}
		lists[group] = append(lists[group], starter)
	}
	return lists, api.OK
}

// Routes returns the start lists of two routes.
func Routes(order []int) ([]int, []int, api.Errno) {
	if e := checkNumbers(order); e != api.OK {
		return nil, nil, e
	}
	return slices.Clone(order), turned(order, (len(order)+1)/2), api.OK
}

// seeded returns the seeded order of starters without an error, or the error of the key. The sort is stable, so that the draw decides between equal seeds.
func seeded(l []Starter, key int) ([]int, api.Errno) {
	order, e := number.Draw(key, len(l))
	slices.SortStableFunc(order, func(i, j int) int {
		return cmp.Compare(l[i].rank(), l[j].rank())
	})
	return order, e
}

// rank returns the seed, or, if there is none, what is behind all seeds.
func (s Starter) rank() int {
	if s.Seed == 0 {
		return api.MaxNumber + 1
	}
	return s.Seed
}

func checkNumbers(order []int) api.Errno {
	if len(order) > api.MaxClimbers {
		return api.ErrMany
	}
	return check.Each(order, func(i, n int) api.Errno {
		return check.First(check.Range(n, 0, api.MaxNumber), twice(order, i))
	})
}

// twice returns ErrTwice if an element of a list is there before.
func twice[T comparable](l []T, i int) api.Errno {
	return check.If(slices.Contains(l[:i], l[i]), api.ErrTwice)
}

// turned returns a list that begins with another one of its elements, and ends with those that were ahead of it.
func turned[T any](l []T, first int) []T {
	return slices.Concat(l[first:], l[:first])
}
