package season_test

import (
	"math/big"
	"slices"

	"crux/api"
	"crux/number"
	"crux/season"
)

// These functions follow the chapter sentence by sentence. The package is compared with them.

func outside(n, least, greatest int) bool {
	return n < least || n > greatest
}

// first returns the first error that is not OK.
func first(l ...api.Errno) api.Errno {
	for _, e := range l {
		if e != api.OK {
			return e
		}
	}
	return api.OK
}

// when returns an error if something is wrong.
func when(wrong bool, e api.Errno) api.Errno {
	if wrong {
		return e
	}
	return api.OK
}

// textOf returns the text of a number.
func textOf(a *big.Rat) api.Rat {
	return api.Rat(a.RatString())
}

func modelContest(c season.Contest) api.Errno {
	if !number.IsName(c.Name) {
		return api.ErrName
	}
	if outside(c.Day, 0, 99999) {
		return api.ErrRange
	}
	if len(c.Lines) > 160 {
		return api.ErrMany
	}
	climbers := map[string]bool{}
	for _, x := range c.Lines {
		if !number.IsName(x.Climber) || !number.IsName(x.Nation) {
			return api.ErrName
		}
		if climbers[x.Climber] {
			return api.ErrTwice
		}
		if outside(x.Place, 0, 160) {
			return api.ErrRange
		}
		climbers[x.Climber] = true
	}
	return api.OK
}

func modelContests(l []season.Contest) api.Errno {
	if len(l) > 32 {
		return api.ErrMany
	}
	names := map[string]bool{}
	for _, c := range l {
		if e := modelContest(c); e != api.OK {
			return e
		}
		if names[c.Name] {
			return api.ErrTwice
		}
		names[c.Name] = true
	}
	return api.OK
}

func modelTable(t []int) api.Errno {
	if len(t) > 160 {
		return api.ErrMany
	}
	before := 99999
	for _, points := range t {
		if outside(points, 0, 99999) {
			return api.ErrRange
		}
		if points > before {
			return api.ErrOrder
		}
		before = points
	}
	return api.OK
}

func modelRule(r season.Rule) api.Errno {
	return when(outside(r.Window, 1, 99999) || outside(r.Best, 1, 16) || outside(r.Team, 1, 16), api.ErrRange)
}

func modelDay(day int) api.Errno {
	return when(outside(day, 0, 99999), api.ErrRange)
}

func modelName(name string) api.Errno {
	return when(!number.IsName(name), api.ErrName)
}

// modelLine returns the points of a line of a contest.
func modelLine(c season.Contest, t []int, x season.Line) *big.Rat {
	if x.Place == 0 {
		return new(big.Rat)
	}
	k := 0
	for _, other := range c.Lines {
		if other.Place == x.Place {
			k++
		}
	}
	points := 0
	for place := x.Place; place <= x.Place+k-1; place++ {
		if place <= len(t) {
			points += t[place-1]
		}
	}
	return big.NewRat(int64(points), int64(k))
}

func modelPoints(c season.Contest, t []int) ([]api.Rat, api.Errno) {
	if e := first(modelContest(c), modelTable(t)); e != api.OK {
		return nil, e
	}
	var l []api.Rat
	for _, x := range c.Lines {
		l = append(l, textOf(modelLine(c, t, x)))
	}
	return l, api.OK
}

// modelScore is a line with a place in the window.
type modelScore struct {
	contest, day int
	nation       string
	points       *big.Rat
}

// isLater returns whether a contest is later than that of another score.
func (x modelScore) isLater(y modelScore) bool {
	return x.day > y.day || x.day == y.day && x.contest > y.contest
}

// modelScores returns a climber's lines with a place in the window.
func modelScores(l []season.Contest, t []int, r season.Rule, climber string, day int) []modelScore {
	var scores []modelScore
	for i, c := range l {
		for _, x := range c.Lines {
			if c.Day >= day-r.Window+1 && c.Day <= day && x.Climber == climber && x.Place != 0 {
				scores = append(scores, modelScore{i, c.Day, x.Nation, modelLine(c, t, x)})
			}
		}
	}
	return scores
}

// modelCounting returns those that count: before each of them there are fewer than Best with more points, or as many points of later contests.
func modelCounting(scores []modelScore, r season.Rule) []modelScore {
	var counting []modelScore
	for _, x := range scores {
		before := 0
		for _, y := range scores {
			order := y.points.Cmp(x.points)
			if order > 0 || order == 0 && y.isLater(x) {
				before++
			}
		}
		if before < r.Best {
			counting = append(counting, x)
		}
	}
	return counting
}

func modelSum(counting []modelScore) *big.Rat {
	sum := new(big.Rat)
	for _, x := range counting {
		sum.Add(sum, x.points)
	}
	return sum
}

func modelSeason(l []season.Contest, t []int, r season.Rule) api.Errno {
	return first(modelContests(l), modelTable(t), modelRule(r))
}

func modelScoreOf(l []season.Contest, t []int, r season.Rule, climber string, day int) (api.Rat, []int, api.Errno) {
	if e := first(modelSeason(l, t, r), modelName(climber), modelDay(day)); e != api.OK {
		return "", nil, e
	}
	counting := modelCounting(modelScores(l, t, r, climber, day), r)
	if len(counting) == 0 {
		return "", nil, api.ErrNone
	}
	var contests []int
	for _, x := range counting {
		contests = append(contests, x.contest)
	}
	return textOf(modelSum(counting)), contests, api.OK
}

// modelClimber is a climber with a standing.
type modelClimber struct {
	name, nation string
	points       *big.Rat
	list         []*big.Rat // in descending order
}

func (x modelClimber) isAhead(y modelClimber) bool {
	if order := x.points.Cmp(y.points); order != 0 {
		return order > 0
	}
	for i := range x.list {
		if i >= len(y.list) {
			return true
		}
		if order := x.list[i].Cmp(y.list[i]); order != 0 {
			return order > 0
		}
	}
	return false
}

// modelClimbers returns all climbers with a line with a place in the window, in the order of their names.
func modelClimbers(l []season.Contest, t []int, r season.Rule, day int) []modelClimber {
	var all []string
	for _, c := range l {
		for _, x := range c.Lines {
			all = append(all, x.Climber)
		}
	}
	slices.Sort(all)
	var climbers []modelClimber
	for _, name := range slices.Compact(all) {
		scores := modelScores(l, t, r, name, day)
		if len(scores) == 0 {
			continue
		}
		counting := modelCounting(scores, r)
		x := modelClimber{name: name, points: modelSum(counting)}
		for _, y := range counting {
			x.list = append(x.list, y.points)
		}
		slices.SortFunc(x.list, func(a, b *big.Rat) int { return b.Cmp(a) })
		last := scores[0]
		for _, y := range scores {
			if y.isLater(last) {
				last = y
			}
		}
		x.nation = last.nation
		climbers = append(climbers, x)
	}
	return climbers
}

func modelStandings(l []season.Contest, t []int, r season.Rule, day int) ([]season.Standing, api.Errno) {
	if e := first(modelSeason(l, t, r), modelDay(day)); e != api.OK {
		return nil, e
	}
	climbers := modelClimbers(l, t, r, day)
	var standings []season.Standing
	for _, x := range climbers {
		rank := 1
		for _, y := range climbers {
			if y.isAhead(x) {
				rank++
			}
		}
		standings = append(standings, season.Standing{Climber: x.name, Points: textOf(x.points), Rank: rank})
	}
	slices.SortStableFunc(standings, func(a, b season.Standing) int { return a.Rank - b.Rank })
	return standings, api.OK
}

func modelNations(l []season.Contest, t []int, r season.Rule, day int) ([]season.Nation, api.Errno) {
	if e := first(modelSeason(l, t, r), modelDay(day)); e != api.OK {
		return nil, e
	}
	climbers := modelClimbers(l, t, r, day)
	points := map[string]*big.Rat{}
	var all []string
	for _, x := range climbers {
		all = append(all, x.nation)
	}
	slices.Sort(all)
	all = slices.Compact(all)
	for _, nation := range all {
		var best []*big.Rat
		for _, x := range climbers {
			if x.nation == nation {
				best = append(best, x.points)
			}
		}
		slices.SortFunc(best, func(a, b *big.Rat) int { return b.Cmp(a) })
		points[nation] = new(big.Rat)
		for i, x := range best {
			if i < r.Team {
				points[nation].Add(points[nation], x)
			}
		}
	}
	slices.SortStableFunc(all, func(a, b string) int { return points[b].Cmp(points[a]) })
	var nations []season.Nation
	for _, nation := range all {
		nations = append(nations, season.Nation{Name: nation, Points: textOf(points[nation])})
	}
	return nations, api.OK
}

// modelLapses tries all days on which a contest may still be in the window.
func modelLapses(l []season.Contest, t []int, r season.Rule, climber string, day int) (int, api.Errno) {
	if _, _, e := modelScoreOf(l, t, r, climber, day); e != api.OK {
		return 0, e
	}
	var past []season.Contest
	for _, c := range l {
		if c.Day <= day {
			past = append(past, c)
		}
	}
	pointsOn := func(day int) *big.Rat {
		return modelSum(modelCounting(modelScores(past, t, r, climber, day), r))
	}
	for next := day + 1; next <= day+r.Window; next++ {
		if pointsOn(next).Cmp(pointsOn(day)) != 0 {
			return next, api.OK
		}
	}
	return 0, api.ErrNone
}

func modelChanged(a, b []season.Contest, t []int, r season.Rule, day int) ([]string, api.Errno) {
	if e := first(modelContests(a), modelContests(b), modelTable(t), modelRule(r), modelDay(day)); e != api.OK {
		return nil, e
	}
	before, _ := modelStandings(a, t, r, day)
	after, _ := modelStandings(b, t, r, day)
	var changed []string
	for _, x := range before {
		if !slices.Contains(after, x) {
			changed = append(changed, x.Climber)
		}
	}
	for _, x := range after {
		if !slices.Contains(before, x) {
			changed = append(changed, x.Climber)
		}
	}
	slices.Sort(changed)
	return slices.Compact(changed), api.OK
}

func modelTour(t season.Tour) api.Errno {
	if len(t.Hosts) == 0 {
		return api.ErrEmpty
	}
	if len(t.Hosts) > 32 {
		return api.ErrMany
	}
	names := map[string]bool{}
	for _, h := range t.Hosts {
		if !number.IsName(h.Name) {
			return api.ErrName
		}
		if names[h.Name] {
			return api.ErrTwice
		}
		if outside(h.Days, 1, 99999) || outside(h.From, 0, 99999) || outside(h.To, 0, 99999) {
			return api.ErrRange
		}
		if h.From > h.To {
			return api.ErrOrder
		}
		names[h.Name] = true
	}
	if len(t.Travel) != len(t.Hosts) {
		return api.ErrShape
	}
	for _, row := range t.Travel {
		if len(row) != len(t.Hosts) {
			return api.ErrShape
		}
		for _, days := range row {
			if outside(days, 0, 99999) {
				return api.ErrRange
			}
		}
	}
	return api.OK
}

func modelOrder(t season.Tour, order []int) api.Errno {
	if len(order) != len(t.Hosts) {
		return api.ErrShape
	}
	stands := map[int]bool{}
	for _, host := range order {
		if outside(host, 0, len(t.Hosts)-1) {
			return api.ErrUnknown
		}
		if stands[host] {
			return api.ErrTwice
		}
		stands[host] = true
	}
	return api.OK
}

func modelTravel(t season.Tour, order []int) (int, api.Errno) {
	if e := modelTour(t); e != api.OK {
		return 0, e
	}
	if e := modelOrder(t, order); e != api.OK {
		return 0, e
	}
	days := 0
	for i := range order[1:] {
		days += t.Travel[order[i]][order[i+1]]
	}
	return days, api.OK
}

func modelBegins(t season.Tour, order []int) ([]int, api.Errno) {
	if _, e := modelTravel(t, order); e != api.OK {
		return nil, e
	}
	days := map[int]int{order[0]: t.Hosts[order[0]].From}
	for i := 1; i < len(order); i++ {
		before, host := order[i-1], order[i]
		days[host] = days[before] + t.Hosts[before].Days + t.Travel[before][host]
		if days[host] < t.Hosts[host].From {
			days[host] = t.Hosts[host].From
		}
	}
	var begins []int
	for i, h := range t.Hosts {
		if days[i] > h.To {
			return nil, api.ErrInfeasible
		}
		begins = append(begins, days[i])
	}
	return begins, api.OK
}

// modelOrders returns all orders of n hosts, in any order.
func modelOrders(n int) [][]int {
	if n == 0 {
		return [][]int{nil}
	}
	var orders [][]int
	for _, order := range modelOrders(n - 1) {
		for i := range n {
			orders = append(orders, slices.Insert(slices.Clone(order), i, n-1))
		}
	}
	return orders
}

func modelCalendar(t season.Tour) ([]int, api.Errno) {
	if e := modelTour(t); e != api.OK {
		return nil, e
	}
	if len(t.Hosts) > 8 {
		return nil, api.ErrLimit
	}
	var best []int
	least := 0
	for _, order := range modelOrders(len(t.Hosts)) {
		if _, e := modelBegins(t, order); e != api.OK {
			continue
		}
		travel, _ := modelTravel(t, order)
		if best == nil || travel < least || travel == least && slices.Compare(order, best) < 0 {
			best, least = order, travel
		}
	}
	return best, when(best == nil, api.ErrInfeasible)
}

func modelQuota(q season.Quota) api.Errno {
	if len(q.Lists) > 16 {
		return api.ErrMany
	}
	names := map[string]bool{}
	for _, l := range q.Lists {
		if !number.IsName(l.Name) {
			return api.ErrName
		}
		if names[l.Name] {
			return api.ErrTwice
		}
		if outside(l.Count, 0, 160) {
			return api.ErrRange
		}
		if len(l.Entries) > 160 {
			return api.ErrMany
		}
		climbers := map[string]bool{}
		for _, x := range l.Entries {
			if !number.IsName(x.Climber) || !number.IsName(x.Nation) {
				return api.ErrName
			}
			if climbers[x.Climber] {
				return api.ErrTwice
			}
			climbers[x.Climber] = true
		}
		names[l.Name] = true
	}
	return when(outside(q.Cap, 1, 160), api.ErrRange)
}

func modelWithdrawn(l []string) api.Errno {
	if len(l) > 256 {
		return api.ErrMany
	}
	names := map[string]bool{}
	for _, name := range l {
		if !number.IsName(name) {
			return api.ErrName
		}
		if names[name] {
			return api.ErrTwice
		}
		names[name] = true
	}
	return api.OK
}

// modelPlace is a place with the entry by which it was got.
type modelPlace struct {
	entry season.Entry
	rule  int
}

// modelMay returns whether a climber has not withdrawn, has no place yet, and the nation has fewer than Cap places.
func modelMay(q season.Quota, withdrawn []string, places []modelPlace, x season.Entry) bool {
	of := 0
	for _, p := range places {
		if p.entry.Climber == x.Climber {
			return false
		}
		if p.entry.Nation == x.Nation {
			of++
		}
	}
	return of < q.Cap && !slices.Contains(withdrawn, x.Climber)
}

func modelGive(q season.Quota, withdrawn []string) []modelPlace {
	var places []modelPlace
	for rule, l := range q.Lists {
		left := l.Count
		for _, x := range l.Entries {
			if left > 0 && modelMay(q, withdrawn, places, x) {
				places = append(places, modelPlace{x, rule})
				left--
			}
		}
	}
	return places
}

func modelPlaces(q season.Quota, withdrawn []string) ([]season.Place, api.Errno) {
	if e := first(modelQuota(q), modelWithdrawn(withdrawn)); e != api.OK {
		return nil, e
	}
	var l []season.Place
	for _, p := range modelGive(q, withdrawn) {
		l = append(l, season.Place{Climber: p.entry.Climber, Rule: p.rule})
	}
	return l, api.OK
}

func modelOpen(q season.Quota, withdrawn []string) ([]int, api.Errno) {
	places, e := modelPlaces(q, withdrawn)
	if e != api.OK {
		return nil, e
	}
	var open []int
	for rule, l := range q.Lists {
		left := l.Count
		for _, p := range places {
			if p.Rule == rule {
				left--
			}
		}
		open = append(open, left)
	}
	return open, api.OK
}

func modelNext(q season.Quota, withdrawn []string, rule int) (string, api.Errno) {
	e := first(modelQuota(q), modelWithdrawn(withdrawn), when(outside(rule, 0, len(q.Lists)-1), api.ErrUnknown))
	if e != api.OK {
		return "", e
	}
	places := modelGive(q, withdrawn)
	for _, x := range q.Lists[rule].Entries {
		if modelMay(q, withdrawn, places, x) {
			return x.Climber, api.OK
		}
	}
	return "", api.ErrNone
}

func modelWithdraw(q season.Quota, withdrawn []string, climber string) ([]string, []string, api.Errno) {
	if e := first(modelQuota(q), modelWithdrawn(withdrawn), modelName(climber)); e != api.OK {
		return nil, nil, e
	}
	now, then := map[string]bool{}, map[string]bool{}
	for _, p := range modelGive(q, withdrawn) {
		now[p.entry.Climber] = true
	}
	for _, p := range modelGive(q, append(slices.Clone(withdrawn), climber)) {
		then[p.entry.Climber] = true
	}
	if !now[climber] {
		return nil, nil, api.ErrNone
	}
	return modelWithout(now, then), modelWithout(then, now), api.OK
}

// modelWithout returns the names of one set that are not in another one.
func modelWithout(a, b map[string]bool) []string {
	var l []string
	for name := range a {
		if !b[name] {
			l = append(l, name)
		}
	}
	slices.Sort(l)
	return l
}
