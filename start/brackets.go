package start

import (
	"math/bits"
	"slices"

	"crux/api"
	"crux/check"
	"crux/number"
)

// Bracket returns the seeds of the slots of a bracket.
func Bracket(n int) ([]int, api.Errno) {
	if e := check.Range(n, 1, MaxSlots); e != api.OK {
		return nil, e
	}
	return bracket(n), api.OK
}

// Meet returns the round in which two seeds meet.
func Meet(n, a, b int) (int, api.Errno) {
	e := check.First(
		check.Range(n, 1, MaxSlots),
		check.If(a < 1 || a > n || b < 1 || b > n, api.ErrUnknown),
		check.If(a == b, api.ErrTwice),
	)
	if e != api.OK {
		return 0, e
	}
	slots := bracket(n)
	// Each round halves the numbers of the slots, and they meet when these are the same: behind the highest bit in which they differ.
	return bits.Len(uint(slices.Index(slots, a) ^ slices.Index(slots, b))), api.OK
}

// Races returns the races of the first round.
func Races(names []string) ([]Race, api.Errno) {
	if e := checkNames(names); e != api.OK {
		return nil, e
	}
	if len(names) == 1 {
		return []Race{raceOf(names[0], "")}, api.OK
	}
	var races []Race
	for pair := range slices.Chunk(bracket(len(names)), 2) {
		races = append(races, raceOf(seedIn(names, pair[0]), seedIn(names, pair[1])))
	}
	return races, api.OK
}

// bracket returns the seeds of the slots, if there may be so many.
func bracket(n int) []int {
	slots := []int{1}
	for len(slots) < n {
		var next []int
		for _, seed := range slots {
			next = append(next, seed, 2*len(slots)+1-seed)
		}
		slots = next
	}
	for i, seed := range slots {
		if seed > n {
			slots[i] = 0
		}
	}
	return slots
}

// seedIn returns the name that a seed has, or nobody for a bye.
func seedIn(names []string, seed int) string {
	if seed == 0 {
		return ""
	}
	return names[seed-1]
}

func checkNames(names []string) api.Errno {
	switch {
	case len(names) == 0:
		return api.ErrEmpty
	case len(names) > MaxSlots:
		return api.ErrMany
	}
	return check.Each(names, func(i int, name string) api.Errno {
		return check.First(check.If(!number.IsName(name), api.ErrName), twice(names, i))
	})
}
