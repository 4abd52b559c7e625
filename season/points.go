package season

import (
	"slices"

	"crux/api"
	"crux/check"
	"crux/exact"
)

// prizes are the points for each place of a contest.
type prizes map[int]exact.Rat

// CheckContests returns the first error of contests, or OK.
func CheckContests(l []Contest) api.Errno {
	if len(l) > MaxContests {
		return api.ErrMany
	}
	return check.Each(l, func(i int, c Contest) api.Errno {
		isSame := func(before Contest) bool { return before.Name == c.Name }
		return check.First(c.check(), check.If(slices.ContainsFunc(l[:i], isSame), api.ErrTwice))
	})
}

// CheckTable returns the first error of a table of points, or OK.
func CheckTable(t []int) api.Errno {
	if len(t) > api.MaxClimbers {
		return api.ErrMany
	}
	return check.Each(t, func(i, points int) api.Errno {
		return check.First(
			check.Range(points, 0, api.MaxPoints),
			check.If(i > 0 && points > t[i-1], api.ErrOrder),
		)
	})
}

// Points returns the points of the lines of a contest.
func Points(c Contest, t []int) ([]api.Rat, api.Errno) {
	if e := check.First(c.check(), CheckTable(t)); e != api.OK {
		return nil, e
	}
	return apply(apply(c.Lines, c.prizes(t).of), text), api.OK
}

// of returns the points of a line.
func (p prizes) of(x Line) exact.Rat {
	return p[x.Place]
}

// prizes returns the points by a table. The lines with a place share those of the places that they fill.
func (c Contest) prizes(t []int) prizes {
	lines := map[int]int{}
	for _, x := range c.Lines {
		lines[x.Place]++
	}
	p := prizes{}
	for place, n := range lines {
		p[place] = exact.Quotient(exact.Whole(pointsOf(t, place, n)), exact.Whole(n))
	}
	return p
}

// pointsOf returns the points of n places from one on. The place 0 has none, as well as those behind the end of the table.
func pointsOf(t []int, place, n int) int {
	if place == 0 {
		return 0
	}
	points := 0
	for _, x := range t[min(place-1, len(t)):min(place-1+n, len(t))] {
		points += x
	}
	return points
}

// text returns a number as a text. No number of a season is too large for one: the denominators divide the least common multiple of the numbers up to 160, which has 69 digits.
func text(a exact.Rat) api.Rat {
	return api.Rat(a.String())
}

func sum(l []exact.Rat) exact.Rat {
	total := exact.Integer(exact.Whole(0))
	for _, x := range l {
		total = total.Plus(x)
	}
	return total
}

func (c Contest) check() api.Errno {
	e := check.First(
		checkName(c.Name),
		checkDay(c.Day),
		check.If(len(c.Lines) > api.MaxClimbers, api.ErrMany),
	)
	if e != api.OK {
		return e
	}
	return check.Each(c.Lines, func(i int, x Line) api.Errno {
		isSame := func(before Line) bool { return before.Climber == x.Climber }
		return check.First(
			checkName(x.Climber),
			checkName(x.Nation),
			check.If(slices.ContainsFunc(c.Lines[:i], isSame), api.ErrTwice),
			check.Range(x.Place, 0, api.MaxClimbers),
		)
	})
}
