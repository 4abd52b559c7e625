package member_test

import (
	"math/bits"
	"slices"

	"crux/api"
	"crux/member"
	"crux/number"
)

// These functions follow the chapter sentence by sentence. The package is compared with them.

func outside(n, least, greatest int) bool {
	return n < least || n > greatest
}

// first returns the first error that is not OK.
func first(l ...api.Errno) api.Errno {
	for _, e := range l {
		if e != api.OK {
			return e
		}
	}
	return api.OK
}

// when returns an error if something is wrong.
func when(wrong bool, e api.Errno) api.Errno {
	if wrong {
		return e
	}
	return api.OK
}

func modelName(name string) api.Errno {
	return when(!number.IsName(name), api.ErrName)
}

func modelDay(day int) api.Errno {
	return when(outside(day, 0, 99999), api.ErrRange)
}

func modelClimbers(l []api.Climber) api.Errno {
	if len(l) > 160 {
		return api.ErrMany
	}
	names := map[string]bool{}
	for _, c := range l {
		e := first(modelName(c.Name), modelName(c.Nation), modelName(c.Category), when(names[c.Name], api.ErrTwice), modelDay(c.Born))
		if e != api.OK {
			return e
		}
		names[c.Name] = true
	}
	return api.OK
}

func modelAge(c api.Climber, day int) (int, api.Errno) {
	e := first(modelClimbers([]api.Climber{c}), modelDay(day), when(c.Born > day, api.ErrOrder))
	if e != api.OK {
		return 0, e
	}
	age := 0
	for c.Born+365*(age+1) <= day {
		age++
	}
	return age, api.OK
}

func modelCategories(l []member.Category) api.Errno {
	if len(l) > 256 {
		return api.ErrMany
	}
	names := map[string]bool{}
	for _, c := range l {
		switch {
		case !number.IsName(c.Name):
			return api.ErrName
		case names[c.Name]:
			return api.ErrTwice
		case outside(c.Least, 0, 120) || outside(c.Most, 0, 120):
			return api.ErrRange
		case c.Least > c.Most:
			return api.ErrOrder
		}
		names[c.Name] = true
	}
	return api.OK
}

func modelSuits(l []member.Category, c api.Climber, day int) ([]string, api.Errno) {
	if e := modelCategories(l); e != api.OK {
		return nil, e
	}
	age, e := modelAge(c, day)
	if e != api.OK {
		return nil, e
	}
	var names []string
	for _, x := range l {
		if !outside(age, x.Least, x.Most) {
			names = append(names, x.Name)
		}
	}
	return names, api.OK
}

func modelGaps(l []member.Category) ([][2]int, api.Errno) {
	if e := modelCategories(l); e != api.OK {
		return nil, e
	}
	without := func(age int) bool {
		return !outside(age, 0, 120) && !slices.ContainsFunc(l, func(c member.Category) bool { return !outside(age, c.Least, c.Most) })
	}
	var gaps [][2]int
	for least := range 121 {
		most := least
		for without(most) {
			most++
		}
		if most > least && !without(least-1) {
			gaps = append(gaps, [2]int{least, most - 1})
		}
	}
	return gaps, api.OK
}

func modelLicences(l []member.Licence) api.Errno {
	if len(l) > 256 {
		return api.ErrMany
	}
	for _, x := range l {
		e := first(modelName(x.Climber), modelDay(x.From), modelDay(x.To), when(x.From > x.To, api.ErrOrder))
		if e != api.OK {
			return e
		}
	}
	return api.OK
}

func modelHolds(l []member.Licence, climber string, day int) bool {
	for _, x := range l {
		if x.Climber == climber && !outside(day, x.From, x.To) {
			return true
		}
	}
	return false
}

func modelLicensed(l []member.Licence, climber string, from, to int) (bool, api.Errno) {
	e := first(modelLicences(l), modelName(climber), modelDay(from), modelDay(to), when(from > to, api.ErrOrder))
	if e != api.OK {
		return false, e
	}
	for day := from; day <= to; day++ {
		if !modelHolds(l, climber, day) {
			return false, api.OK
		}
	}
	return true, api.OK
}

func modelLapse(l []member.Licence, climber string, day int) (int, api.Errno) {
	if e := first(modelLicences(l), modelName(climber), modelDay(day)); e != api.OK {
		return 0, e
	}
	for modelHolds(l, climber, day) {
		day++
	}
	return day, api.OK
}

// modelNames returns the error of a list of names.
func modelNames(l []string, most int) api.Errno {
	if len(l) > most {
		return api.ErrMany
	}
	for i, name := range l {
		if e := first(modelName(name), when(slices.Index(l, name) < i, api.ErrTwice)); e != api.OK {
			return e
		}
	}
	return api.OK
}

func modelTests(l []member.Test) api.Errno {
	if len(l) > 256 {
		return api.ErrMany
	}
	for _, x := range l {
		if e := first(modelName(x.Climber), modelDay(x.Day)); e != api.OK {
			return e
		}
	}
	return api.OK
}

// modelTested returns whether a climber has a test on one of the days.
func modelTested(l []member.Test, climber string, from, to int) bool {
	return slices.ContainsFunc(l, func(x member.Test) bool { return x.Climber == climber && !outside(x.Day, from, to) })
}

func modelPool(c []string, l []member.Test, p member.Pick, day int) ([]string, api.Errno) {
	pickError := when(outside(p.Count, 0, 160) || outside(p.Spare, 0, 99999) || outside(p.Key, 1, 2147483646), api.ErrRange)
	if e := first(modelNames(c, 160), modelTests(l), pickError, modelDay(day)); e != api.OK {
		return nil, e
	}
	order, e := number.Draw(p.Key, len(c))
	if e != api.OK {
		panic("a key and a number that are none")
	}
	// The one with the earliest last test goes to the pool, the first one in the order, and so on.
	order = slices.DeleteFunc(order, func(i int) bool { return modelTested(l, c[i], day-p.Spare, day) })
	var pool []string
	for range p.Count {
		best := -1
		for at, i := range order {
			if best == -1 || modelLast(l, c[i], day) < modelLast(l, c[order[best]], day) {
				best = at
			}
		}
		if best >= 0 {
			pool = append(pool, c[order[best]])
			order = slices.Delete(order, best, best+1)
		}
	}
	return pool, api.OK
}

// modelLast returns the day of the last test of a climber up to a day, or -1.
func modelLast(l []member.Test, climber string, day int) int {
	last := -1
	for _, x := range l {
		if x.Climber == climber && x.Day <= day && x.Day > last {
			last = x.Day
		}
	}
	return last
}

func modelLate(c []string, l []member.Test, days, day int) ([]string, api.Errno) {
	if e := first(modelNames(c, 160), modelTests(l), modelDay(days), modelDay(day)); e != api.OK {
		return nil, e
	}
	var late []string
	for _, name := range c {
		if !modelTested(l, name, day-days, day) {
			late = append(late, name)
		}
	}
	return late, api.OK
}

func modelJury(j member.Jury) api.Errno {
	if len(j.Officials) > 24 {
		return api.ErrMany
	}
	officials := map[string]bool{}
	for _, x := range j.Officials {
		e := first(modelName(x.Name), modelName(x.Nation), when(officials[x.Name], api.ErrTwice), modelNames(x.Roles, 16), when(outside(x.Load, 0, 24), api.ErrRange))
		if e != api.OK {
			return e
		}
		officials[x.Name] = true
	}
	if len(j.Posts) > 24 {
		return api.ErrMany
	}
	posts := map[string]bool{}
	for _, x := range j.Posts {
		e := first(modelName(x.Name), modelName(x.Role), when(posts[x.Name], api.ErrTwice), modelDay(x.Hour), modelNames(x.Nations, 160))
		if e != api.OK {
			return e
		}
		posts[x.Name] = true
	}
	return api.OK
}

// modelMay returns whether an official may have a post.
func modelMay(j member.Jury, official, post int) bool {
	x, p := j.Officials[official], j.Posts[post]
	hasRole, isConcerned := false, false
	for _, role := range x.Roles {
		hasRole = hasRole || role == p.Role
	}
	for _, nation := range p.Nations {
		isConcerned = isConcerned || nation == x.Nation
	}
	return hasRole && !isConcerned
}

func modelServes(j member.Jury, official, post int) (bool, api.Errno) {
	e := first(modelJury(j), when(outside(official, 0, len(j.Officials)-1), api.ErrUnknown), when(outside(post, 0, len(j.Posts)-1), api.ErrUnknown))
	if e != api.OK {
		return false, e
	}
	return modelMay(j, official, post), api.OK
}

func modelAppointment(j member.Jury, a []int) api.Errno {
	if e := first(modelJury(j), when(len(a) != len(j.Posts), api.ErrShape)); e != api.OK {
		return e
	}
	return modelNumbers(j, a)
}

// modelNumbers returns the error of the numbers of an appointment.
func modelNumbers(j member.Jury, a []int) api.Errno {
	for post, official := range a {
		switch {
		case official == -1:
		case outside(official, 0, len(j.Officials)-1):
			return api.ErrUnknown
		case !modelMay(j, official, post):
			return api.ErrRule
		}
	}
	has := map[int]int{}
	at := map[[2]int]bool{}
	for post, official := range a {
		if official == -1 {
			continue
		}
		hour := [2]int{official, j.Posts[post].Hour}
		if at[hour] {
			return api.ErrTwice
		}
		at[hour] = true
		has[official]++
		if has[official] > j.Officials[official].Load {
			return api.ErrMany
		}
	}
	return api.OK
}

// modelAll returns all appointments of a jury, in their lexicographic order.
func modelAll(j member.Jury) [][]int {
	var all [][]int
	a := slices.Repeat([]int{-1}, len(j.Posts))
	var extend func(post int)
	extend = func(post int) {
		if post == len(a) {
			all = append(all, slices.Clone(a))
			return
		}
		extend(post + 1)
		for official := range j.Officials {
			a[post] = official
			if modelNumbers(j, a) == api.OK {
				extend(post + 1)
			}
		}
		a[post] = -1
	}
	extend(0)
	return all
}

// modelFull returns all appointments of a jury that fill all posts, in their lexicographic order.
func modelFull(j member.Jury) [][]int {
	return slices.DeleteFunc(modelAll(j), func(a []int) bool { return slices.Contains(a, -1) })
}

func modelCertain(j member.Jury) api.Errno {
	return first(modelJury(j), when(len(j.Posts) > 12, api.ErrLimit))
}

// modelMost returns how many posts an appointment fills at most.
func modelMost(j member.Jury) (int, api.Errno) {
	if e := modelCertain(j); e != api.OK {
		return 0, e
	}
	most := 0
	for _, a := range modelAll(j) {
		most = max(most, len(slices.DeleteFunc(a, func(official int) bool { return official == -1 })))
	}
	return most, api.OK
}

func modelFirst(j member.Jury) ([]int, api.Errno) {
	if e := modelCertain(j); e != api.OK {
		return nil, e
	}
	full := modelFull(j)
	if len(full) == 0 {
		return nil, api.ErrInfeasible
	}
	return full[0], api.OK
}

// modelExcludes returns whether a set of posts, as bits, excludes itself.
func modelExcludes(all [][]int, set int) bool {
	return !slices.ContainsFunc(all, func(a []int) bool {
		for post, official := range a {
			if set>>post&1 == 1 && official == -1 {
				return false
			}
		}
		return true
	})
}

// postsOf returns the posts of a set, as bits.
func postsOf(set int) []int {
	var l []int
	for post := range 24 {
		if set>>post&1 == 1 {
			l = append(l, post)
		}
	}
	return l
}

// firstSet returns the smallest set of n posts of a kind, of several the lexicographically first one.
func firstSet(n int, isOne func(set int) bool) []int {
	for size := range n + 1 {
		var sets [][]int
		for set := range 1 << n {
			if bits.OnesCount(uint(set)) == size && isOne(set) {
				sets = append(sets, postsOf(set))
			}
		}
		if len(sets) > 0 {
			return slices.MinFunc(sets, slices.Compare)
		}
	}
	return nil
}

func modelExcluded(j member.Jury) ([]int, api.Errno) {
	if e := modelCertain(j); e != api.OK {
		return nil, e
	}
	all, n := modelAll(j), len(j.Posts)
	if !modelExcludes(all, 1<<n-1) {
		return nil, api.ErrNone
	}
	return firstSet(n, func(set int) bool { return modelExcludes(all, set) }), api.OK
}

func modelFairest(j member.Jury) (int, api.Errno) {
	if e := modelCertain(j); e != api.OK {
		return 0, e
	}
	fairest, e := 0, api.ErrInfeasible
	for _, a := range modelFull(j) {
		greatest := 0
		for official := range j.Officials {
			n := 0
			for _, has := range a {
				if has == official {
					n++
				}
			}
			greatest = max(greatest, n)
		}
		if e != api.OK || greatest < fairest {
			fairest, e = greatest, api.OK
		}
	}
	return fairest, e
}

func modelReplaced(j member.Jury, a []int, official int) ([]int, api.Errno) {
	e := first(modelAppointment(j, a), when(outside(official, 0, len(j.Officials)-1), api.ErrUnknown), modelCertain(j))
	if e != api.OK {
		return nil, e
	}
	for _, b := range modelAll(j) {
		isOne := true
		for post := range a {
			if a[post] == official {
				isOne = isOne && b[post] != official && b[post] != -1
			} else {
				isOne = isOne && b[post] == a[post]
			}
		}
		if isOne {
			return b, api.OK
		}
	}
	return nil, api.ErrInfeasible
}
