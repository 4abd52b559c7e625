package member

import (
	"slices"

	"crux/api"
	"crux/check"
)

// CheckClimbers returns the first error of climbers, or OK.
func CheckClimbers(l []api.Climber) api.Errno {
	return checkList(l, api.MaxClimbers, func(before []api.Climber, c api.Climber) api.Errno {
		isSame := func(other api.Climber) bool { return other.Name == c.Name }
		return check.First(
			checkName(c.Name),
			checkName(c.Nation),
			checkName(c.Category),
			check.If(slices.ContainsFunc(before, isSame), api.ErrTwice),
			check.Range(c.Born, 0, api.MaxDay),
		)
	})
}

// Age returns the age of a climber on a day.
func Age(c api.Climber, day int) (int, api.Errno) {
	if e := checkAge(c, day); e != api.OK {
		return 0, e
	}
	return ageOf(c, day), api.OK
}

// CheckCategories returns the first error of categories, or OK.
func CheckCategories(l []Category) api.Errno {
	return checkList(l, api.MaxList, func(before []Category, c Category) api.Errno {
		isSame := func(other Category) bool { return other.Name == c.Name }
		return check.First(
			checkName(c.Name),
			check.If(slices.ContainsFunc(before, isSame), api.ErrTwice),
			check.Range(c.Least, 0, MaxAge),
			check.Range(c.Most, 0, MaxAge),
			check.If(c.Least > c.Most, api.ErrOrder),
		)
	})
}

// Suits returns the names of the categories that suit a climber on a day.
func Suits(l []Category, c api.Climber, day int) ([]string, api.Errno) {
	if e := check.First(CheckCategories(l), checkAge(c, day)); e != api.OK {
		return nil, e
	}
	var names []string
	age := ageOf(c, day)
	for _, x := range l {
		if x.Least <= age && age <= x.Most {
			names = append(names, x.Name)
		}
	}
	return names, api.OK
}

// Gaps returns the spans of ages without a category, as long as possible.
func Gaps(l []Category) ([][2]int, api.Errno) {
	if e := CheckCategories(l); e != api.OK {
		return nil, e
	}
	var isCovered [MaxAge + 1]bool
	for _, c := range l {
		for age := c.Least; age <= c.Most; age++ {
			isCovered[age] = true
		}
	}
	var gaps [][2]int
	for age, covered := range isCovered {
		switch {
		case covered:
		case age == 0 || isCovered[age-1]:
			gaps = append(gaps, [2]int{age, age})
		default:
			gaps[len(gaps)-1][1] = age
		}
	}
	return gaps, api.OK
}

// checkAge returns the first error of a climber, and a day on which the climber has an age.
func checkAge(c api.Climber, day int) api.Errno {
	return check.First(
		CheckClimbers([]api.Climber{c}),
		checkDay(day),
		check.If(c.Born > day, api.ErrOrder),
	)
}

func ageOf(c api.Climber, day int) int {
	return (day - c.Born) / Year
}
