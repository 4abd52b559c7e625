package member

import (
	"cmp"
	"slices"

	"crux/api"
	"crux/check"
	"crux/number"
)

// never is before all days.
const never = -1

// CheckTests returns the first error of tests, or OK.
func CheckTests(l []Test) api.Errno {
	return checkList(l, api.MaxList, func(_ []Test, x Test) api.Errno {
		return check.First(checkName(x.Climber), checkDay(x.Day))
	})
}

// Pool returns the climbers who are to be tested on a day, in their order.
func Pool(c []string, l []Test, p Pick, day int) ([]string, api.Errno) {
	e := check.First(checkNames(c, api.MaxClimbers), CheckTests(l), checkPick(p), checkDay(day))
	if e != api.OK {
		return nil, e
	}
	order, _ := number.Draw(p.Key, len(c))
	last := lastTests(c, l, day)
	var pool []string
	for _, i := range order {
		if last[c[i]] == never || last[c[i]] < day-p.Spare {
			pool = append(pool, c[i])
		}
	}
	slices.SortStableFunc(pool, func(a, b string) int { return cmp.Compare(last[a], last[b]) })
	return pool[:min(p.Count, len(pool))], api.OK
}

// Late returns the climbers without a test on so many days before a day, and on this day.
func Late(c []string, l []Test, days, day int) ([]string, api.Errno) {
	e := check.First(checkNames(c, api.MaxClimbers), CheckTests(l), checkDay(days), checkDay(day))
	if e != api.OK {
		return nil, e
	}
	last := lastTests(c, l, day)
	var late []string
	for _, name := range c {
		if last[name] == never || last[name] < day-days {
			late = append(late, name)
		}
	}
	return late, api.OK
}

func checkPick(p Pick) api.Errno {
	_, keyError := number.Draw(p.Key, 0)
	return check.First(check.Range(p.Count, 0, api.MaxClimbers), checkDay(p.Spare), keyError)
}

// lastTests returns the day of the last test of each climber up to a day, or never.
func lastTests(c []string, l []Test, day int) map[string]int {
	last := map[string]int{}
	for _, name := range c {
		last[name] = never
	}
	for _, x := range l {
		if before, isListed := last[x.Climber]; isListed && x.Day <= day {
			last[x.Climber] = max(before, x.Day)
		}
	}
	return last
}
