package result

import (
	"cmp"
	"slices"

	"crux/api"
	"crux/check"
	"crux/exact"
)

// allRounder is a climber of several disciplines with the numbers in ascending order, and their product or sum.
type allRounder struct {
	total   exact.Rat
	numbers []exact.Rat
}

// Combined returns the totals of several disciplines.
func Combined(l [][]api.Result, kind string) ([]Total, api.Errno) {
	isKind := kind == "product" || kind == "sum"
	if e := check.First(checkDisciplines(l), check.If(!isKind, api.ErrKind)); e != api.OK {
		return nil, e
	}
	combine := exact.Rat.Plus
	if kind == "product" {
		combine = exact.Rat.Times
	}
	var disciplines []map[string]exact.Rat
	for _, results := range l {
		disciplines = append(disciplines, numbersOf(results))
	}
	names := climbers(l[0])
	var list []allRounder
	for _, name := range names {
		list = append(list, allRounderOf(name, disciplines, combine))
	}
	var totals []Total
	for i, rank := range ranks(list, allRounder.compare) {
		totals = append(totals, Total{Climber: names[i], Number: api.Rat(list[i].total.String()), Rank: rank})
	}
	slices.SortStableFunc(totals, by(Total.rank))
	return totals, api.OK
}

// numbersOf returns the numbers of the climbers in a discipline.
func numbersOf(l []api.Result) map[string]exact.Rat {
	ranks := ranks(l, compare)
	shares := map[int]int{}
	for _, rank := range ranks {
		shares[rank]++
	}
	numbers := map[string]exact.Rat{}
	for i, rank := range ranks {
		others := shares[rank] - 1
		numbers[l[i].Climber] = exact.Quotient(exact.Whole(2*rank+others), exact.Whole(2))
	}
	return numbers
}

func allRounderOf(name string, disciplines []map[string]exact.Rat, combine func(a, b exact.Rat) exact.Rat) allRounder {
	var a allRounder
	for _, numbers := range disciplines {
		a.numbers = append(a.numbers, numbers[name])
	}
	a.total = a.numbers[0]
	for _, x := range a.numbers[1:] {
		a.total = combine(a.total, x)
	}
	slices.SortFunc(a.numbers, exact.Rat.Compare)
	return a
}

// compare puts the better one of two climbers first.
func (a allRounder) compare(b allRounder) int {
	return cmp.Or(a.total.Compare(b.total), slices.CompareFunc(a.numbers, b.numbers, exact.Rat.Compare))
}

func checkDisciplines(l [][]api.Result) api.Errno {
	switch {
	case len(l) == 0:
		return api.ErrEmpty
	case len(l) > api.MaxRounds:
		return api.ErrMany
	}
	return check.Each(l, func(_ int, results []api.Result) api.Errno {
		e := check.First(CheckRound(results), check.If(len(results) != len(l[0]), api.ErrShape))
		if e != api.OK {
			return e
		}
		return checkAmong(results, l[0])
	})
}
