package season

import (
	"cmp"
	"iter"
	"maps"
	"slices"
	"strings"

	"crux/api"
	"crux/check"
	"crux/exact"
)

// season is what standings depend on: contests, a table of points, and a rule.
type season struct {
	contests []Contest
	table    []int
	rule     Rule
}

// score is a line with a place.
type score struct {
	contest int // the number of its contest
	day     int
	nation  string
	points  exact.Rat
}

// total is what a climber has on a day.
type total struct {
	nation string
	list   []exact.Rat // the points of the scores that count, in descending order
	points exact.Rat
}

// Score returns the points of a climber on a day, and the contests that count.
func Score(l []Contest, t []int, r Rule, climber string, day int) (api.Rat, []int, api.Errno) {
	s := season{l, t, r}
	scores, e := s.scoresOf(climber, day)
	if e != api.OK {
		return "", nil, e
	}
	counting := s.counting(scores)
	contests := apply(counting, func(x score) int { return x.contest })
	slices.Sort(contests)
	return text(s.points(scores)), contests, api.OK
}

// Standings returns the standings of a day.
func Standings(l []Contest, t []int, r Rule, day int) ([]Standing, api.Errno) {
	s := season{l, t, r}
	if e := check.First(s.check(), checkDay(day)); e != api.OK {
		return nil, e
	}
	return standings(s.totals(day)), api.OK
}

// Nations returns the points of nations on a day.
func Nations(l []Contest, t []int, r Rule, day int) ([]Nation, api.Errno) {
	s := season{l, t, r}
	if e := check.First(s.check(), checkDay(day)); e != api.OK {
		return nil, e
	}
	points := s.nations(s.totals(day))
	names := slices.SortedFunc(maps.Keys(points), func(a, b string) int {
		return cmp.Or(points[b].Compare(points[a]), strings.Compare(a, b))
	})
	return apply(names, func(name string) Nation { return Nation{Name: name, Points: text(points[name])} }), api.OK
}

// Lapses returns the next day on which the points of a climber change, if no contest is added. It may be behind the last day.
func Lapses(l []Contest, t []int, r Rule, climber string, day int) (int, api.Errno) {
	s := season{l, t, r}
	scores, e := s.scoresOf(climber, day)
	if e != api.OK {
		return 0, e
	}
	// Points never rise when a score leaves, so that those of one day may leave one by one.
	now := s.points(scores)
	for i, x := range slices.Backward(scores) {
		if s.points(scores[:i]).Compare(now) != 0 {
			return x.day + r.Window, api.OK
		}
	}
	return 0, api.ErrNone
}

// Changed returns the climbers whose standings are not the same with other contests.
func Changed(a, b []Contest, t []int, r Rule, day int) ([]string, api.Errno) {
	before, after := season{a, t, r}, season{b, t, r}
	if e := check.First(CheckContests(a), after.check(), checkDay(day)); e != api.OK {
		return nil, e
	}
	return changed(before.standing(day), after.standing(day)), api.OK
}

// window visits the contests in the window of a day with their numbers, the last one first.
func (s season) window(day int) iter.Seq2[int, Contest] {
	return func(yield func(int, Contest) bool) {
		for _, i := range s.order() {
			c := s.contests[i]
			if c.Day > day-s.rule.Window && c.Day <= day && !yield(i, c) {
				return
			}
		}
	}
}

// order returns the numbers of the contests, that of the last one first.
func (s season) order() []int {
	var numbers []int
	for i := range s.contests {
		numbers = append(numbers, i)
	}
	slices.SortFunc(numbers, func(i, j int) int {
		return cmp.Or(cmp.Compare(s.contests[j].Day, s.contests[i].Day), cmp.Compare(j, i))
	})
	return numbers
}

// scores returns the scores of each climber in the window of a day, the last one first.
func (s season) scores(day int) map[string][]score {
	scores := map[string][]score{}
	for i, c := range s.window(day) {
		points := c.prizes(s.table).of
		for _, x := range c.Lines {
			if x.Place > 0 {
				scores[x.Climber] = append(scores[x.Climber], score{contest: i, day: c.Day, nation: x.Nation, points: points(x)})
			}
		}
	}
	return scores
}

// scoresOf returns the scores of one climber, who has at least one.
func (s season) scoresOf(climber string, day int) ([]score, api.Errno) {
	if e := check.First(s.check(), checkName(climber), checkDay(day)); e != api.OK {
		return nil, e
	}
	scores := s.scores(day)[climber]
	return scores, check.If(len(scores) == 0, api.ErrNone)
}

// counting returns the scores of a climber that count, the best one first. The sort is stable, so that of equal ones the last one is first.
func (s season) counting(scores []score) []score {
	l := slices.Clone(scores)
	slices.SortStableFunc(l, func(a, b score) int { return b.points.Compare(a.points) })
	return l[:min(len(l), s.rule.Best)]
}

// list returns the points of the scores of a climber that count, in descending order.
func (s season) list(scores []score) []exact.Rat {
	return apply(s.counting(scores), func(x score) exact.Rat { return x.points })
}

// points returns the points of a climber.
func (s season) points(scores []score) exact.Rat {
	return sum(s.list(scores))
}

func (s season) totals(day int) map[string]total {
	totals := map[string]total{}
	for climber, scores := range s.scores(day) {
		totals[climber] = total{nation: scores[0].nation, list: s.list(scores), points: s.points(scores)}
	}
	return totals
}

// compare puts the one of two totals first that is ahead.
func (t total) compare(other total) int {
	return cmp.Or(
		other.points.Compare(t.points),
		slices.CompareFunc(other.list, t.list, exact.Rat.Compare),
	)
}

// ordered returns the climbers, those who are ahead first.
func ordered(totals map[string]total) []string {
	return slices.SortedFunc(maps.Keys(totals), func(a, b string) int {
		return cmp.Or(totals[a].compare(totals[b]), strings.Compare(a, b))
	})
}

func standings(totals map[string]total) []Standing {
	var l []Standing
	for i, name := range ordered(totals) {
		t, rank := totals[name], i+1
		if i > 0 && t.compare(totals[l[i-1].Climber]) == 0 {
			rank = l[i-1].Rank
		}
		l = append(l, Standing{Climber: name, Points: text(t.points), Rank: rank})
	}
	return l
}

// standing returns the standings of a day by their climbers.
func (s season) standing(day int) map[string]Standing {
	byName := map[string]Standing{}
	for _, x := range standings(s.totals(day)) {
		byName[x.Climber] = x
	}
	return byName
}

// nations returns the points of nations.
func (s season) nations(totals map[string]total) map[string]exact.Rat {
	best := map[string][]exact.Rat{}
	for _, name := range ordered(totals) {
		t := totals[name]
		if len(best[t.nation]) < s.rule.Team {
			best[t.nation] = append(best[t.nation], t.points)
		}
	}
	points := map[string]exact.Rat{}
	for nation, l := range best {
		points[nation] = sum(l)
	}
	return points
}

// changed returns the names of those who have not the same standing before and after.
func changed(before, after map[string]Standing) []string {
	var names []string
	for name, x := range before {
		if after[name] != x {
			names = append(names, name)
		}
	}
	for name := range after {
		if before[name] == (Standing{}) {
			names = append(names, name)
		}
	}
	slices.Sort(names)
	return names
}

func (s season) check() api.Errno {
	return check.First(CheckContests(s.contests), CheckTable(s.table), s.rule.check())
}

func (r Rule) check() api.Errno {
	return check.First(
		check.Range(r.Window, 1, api.MaxDay),
		check.Range(r.Best, 1, MaxBest),
		check.Range(r.Team, 1, MaxBest),
	)
}
