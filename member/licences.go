package member

import (
	"iter"
	"slices"

	"crux/api"
	"crux/check"
)

// CheckLicences returns the first error of licences, or OK.
func CheckLicences(l []Licence) api.Errno {
	return checkList(l, api.MaxList, func(_ []Licence, x Licence) api.Errno {
		return check.First(
			checkName(x.Climber),
			checkDay(x.From),
			checkDay(x.To),
			check.If(x.From > x.To, api.ErrOrder),
		)
	})
}

// Licensed returns whether a licence of a climber holds on each day of a span.
func Licensed(l []Licence, climber string, from, to int) (bool, api.Errno) {
	e := check.First(
		CheckLicences(l),
		checkName(climber),
		checkDay(from),
		checkDay(to),
		check.If(from > to, api.ErrOrder),
	)
	if e != api.OK {
		return false, e
	}
	return lapseOf(l, climber, from) > to, api.OK
}

// Lapse returns the first day without a licence of a climber, from a day on.
func Lapse(l []Licence, climber string, day int) (int, api.Errno) {
	if e := check.First(CheckLicences(l), checkName(climber), checkDay(day)); e != api.OK {
		return 0, e
	}
	return lapseOf(l, climber, day), api.OK
}

func lapseOf(l []Licence, climber string, day int) int {
	isOther := func(x Licence) bool { return x.Climber != climber }
	lapse := day
	for licensed := range licensedDays(slices.DeleteFunc(slices.Clone(l), isOther), day) {
		lapse = licensed + 1
	}
	return lapse
}

// licensedDays goes through the days from a day on, up to the first one on which no licence holds.
func licensedDays(l []Licence, from int) iter.Seq[int] {
	return func(yield func(int) bool) {
		day := from
		for holds(l, day) && yield(day) {
			day++
		}
	}
}

func holds(l []Licence, day int) bool {
	return slices.ContainsFunc(l, func(x Licence) bool { return x.From <= day && day <= x.To })
}
