package season_test

import (
	"math"
	"reflect"
	"slices"
	"strings"
	"testing"

	"crux/api"
	"crux/season"
)

// arguments are those of all functions.
type arguments struct {
	contests, others []season.Contest
	table            []int
	rule             season.Rule
	climber          string
	day              int
	tour             season.Tour
	order            []int
	quota            season.Quota
	withdrawn        []string
	number           int
}

// one is the contest of Points.
func (x arguments) one() season.Contest {
	if len(x.contests) == 0 {
		return season.Contest{}
	}
	return x.contests[0]
}

// answer is what a function returns: its results, and its error.
type answer struct {
	what    string
	results []any
	e       api.Errno
}

// answers returns what all functions return.
func answers(x arguments) []answer {
	points, pointsError := season.Points(x.one(), x.table)
	score, counts, scoreError := season.Score(x.contests, x.table, x.rule, x.climber, x.day)
	standings, standingsError := season.Standings(x.contests, x.table, x.rule, x.day)
	nations, nationsError := season.Nations(x.contests, x.table, x.rule, x.day)
	lapses, lapsesError := season.Lapses(x.contests, x.table, x.rule, x.climber, x.day)
	changed, changedError := season.Changed(x.contests, x.others, x.table, x.rule, x.day)
	travel, travelError := season.Travel(x.tour, x.order)
	begins, beginsError := season.Begins(x.tour, x.order)
	best, bestError := season.Calendar(x.tour)
	places, placesError := season.Places(x.quota, x.withdrawn)
	open, openError := season.Open(x.quota, x.withdrawn)
	next, nextError := season.Next(x.quota, x.withdrawn, x.number)
	lose, get, withdrawError := season.Withdraw(x.quota, x.withdrawn, x.climber)
	return []answer{
		{"CheckContests", nil, season.CheckContests(x.contests)},
		{"CheckTable", nil, season.CheckTable(x.table)},
		{"Points", []any{points}, pointsError},
		{"Score", []any{score, counts}, scoreError},
		{"Standings", []any{standings}, standingsError},
		{"Nations", []any{nations}, nationsError},
		{"Lapses", []any{lapses}, lapsesError},
		{"Changed", []any{changed}, changedError},
		{"CheckTour", nil, season.CheckTour(x.tour)},
		{"Travel", []any{travel}, travelError},
		{"Begins", []any{begins}, beginsError},
		{"Calendar", []any{best}, bestError},
		{"CheckQuota", nil, season.CheckQuota(x.quota)},
		{"Places", []any{places}, placesError},
		{"Open", []any{open}, openError},
		{"Next", []any{next}, nextError},
		{"Withdraw", []any{lose, get}, withdrawError},
	}
}

// modelAnswers returns what all functions of the model return. Long windows are not for its Lapses.
func modelAnswers(x arguments) []answer {
	points, pointsError := modelPoints(x.one(), x.table)
	score, counts, scoreError := modelScoreOf(x.contests, x.table, x.rule, x.climber, x.day)
	standings, standingsError := modelStandings(x.contests, x.table, x.rule, x.day)
	nations, nationsError := modelNations(x.contests, x.table, x.rule, x.day)
	lapses, lapsesError := 0, api.OK
	if x.rule.Window < 100 {
		lapses, lapsesError = modelLapses(x.contests, x.table, x.rule, x.climber, x.day)
	} else {
		lapses, lapsesError = season.Lapses(x.contests, x.table, x.rule, x.climber, x.day)
	}
	changed, changedError := modelChanged(x.contests, x.others, x.table, x.rule, x.day)
	travel, travelError := modelTravel(x.tour, x.order)
	begins, beginsError := modelBegins(x.tour, x.order)
	best, bestError := modelCalendar(x.tour)
	places, placesError := modelPlaces(x.quota, x.withdrawn)
	open, openError := modelOpen(x.quota, x.withdrawn)
	next, nextError := modelNext(x.quota, x.withdrawn, x.number)
	lose, get, withdrawError := modelWithdraw(x.quota, x.withdrawn, x.climber)
	return []answer{
		{"CheckContests", nil, modelContests(x.contests)},
		{"CheckTable", nil, modelTable(x.table)},
		{"Points", []any{points}, pointsError},
		{"Score", []any{score, counts}, scoreError},
		{"Standings", []any{standings}, standingsError},
		{"Nations", []any{nations}, nationsError},
		{"Lapses", []any{lapses}, lapsesError},
		{"Changed", []any{changed}, changedError},
		{"CheckTour", nil, modelTour(x.tour)},
		{"Travel", []any{travel}, travelError},
		{"Begins", []any{begins}, beginsError},
		{"Calendar", []any{best}, bestError},
		{"CheckQuota", nil, modelQuota(x.quota)},
		{"Places", []any{places}, placesError},
		{"Open", []any{open}, openError},
		{"Next", []any{next}, nextError},
		{"Withdraw", []any{lose, get}, withdrawError},
	}
}

// some draws arguments of any form.
type some struct {
	drawing
}

func (d some) number() int {
	l := []int{0, 1, 2, 3, 5, 9, 16, 17, 160, 161, api.MaxDay, api.MaxDay + 1, -1, -api.MaxNumber, math.MaxInt, math.MinInt}
	return l[d.Intn(len(l))]
}

func (d some) word() string {
	l := []string{"", "c1", "c2", "A", "a", "a b", "1", "\xff", strings.Repeat("a", 5000)}
	return l[d.Intn(len(l))]
}

func (d some) anyLine() season.Line {
	return line(d.word(), d.word(), d.number())
}

func (d some) anyContest() season.Contest {
	return contest(d.word(), d.number(), spoiled(d, d.lines(4), d.anyLine)...)
}

func (d some) anyHost() season.Host {
	return host(d.word(), d.number(), d.number(), d.number())
}

func (d some) anyRow() []int {
	return spoiled(d, []int{1, 2}, d.number)
}

func (d some) anyEntry() season.Entry {
	return entry(d.word(), d.word())
}

func (d some) anyList() season.List {
	return list(d.word(), d.number(), spoiled(d, entries(3), d.anyEntry)...)
}

// spoiled returns a list in which something of any form may stand.
func spoiled[T any](d some, l []T, other func() T) []T {
	if d.Intn(6) == 0 && len(l) > 0 {
		l = slices.Clone(l)
		l[d.Intn(len(l))] = other()
	}
	if d.Intn(9) == 0 {
		l = append(slices.Clone(l), other())
	}
	if d.Intn(60) == 0 {
		return slices.Repeat([]T{other()}, d.Intn(300))
	}
	return l
}

// arguments returns arguments that fit to each other, or nearly so.
func (d some) arguments() arguments {
	x := arguments{
		contests: d.contests(5, 5), others: d.contests(5, 5), table: d.table(), rule: d.rule(),
		climber: names(6)[d.Intn(6)], day: d.from(0, 25), tour: d.tour(4), quota: d.quota(4, 6), number: d.Intn(5),
		withdrawn: d.some(names(4)),
	}
	x.order = d.Perm(len(x.tour.Hosts))
	if d.Intn(2) == 0 {
		return x
	}
	x.contests = spoiled(d, x.contests, d.anyContest)
	x.others = spoiled(d, x.others, d.anyContest)
	x.table = spoiled(d, x.table, d.number)
	x.tour.Hosts = spoiled(d, x.tour.Hosts, d.anyHost)
	x.tour.Travel = spoiled(d, x.tour.Travel, d.anyRow)
	x.order = spoiled(d, x.order, d.number)
	x.quota.Lists = spoiled(d, x.quota.Lists, d.anyList)
	x.withdrawn = spoiled(d, x.withdrawn, d.word)
	for _, n := range []*int{&x.rule.Window, &x.rule.Best, &x.rule.Team, &x.day, &x.quota.Cap, &x.number} {
		if d.Intn(9) == 0 {
			*n = d.number()
		}
	}
	if d.Intn(6) == 0 {
		x.climber = d.word()
	}
	return x
}

// scramble overwrites all lists in a result.
func scramble(v reflect.Value) {
	switch v.Kind() {
	case reflect.Slice:
		for i := range v.Len() {
			scramble(v.Index(i))
			v.Index(i).SetZero()
		}
		// What is behind the end of a list may belong to nobody else.
		whole := v.Slice3(0, v.Cap(), v.Cap())
		for i := v.Len(); i < v.Cap(); i++ {
			whole.Index(i).SetZero()
		}
	case reflect.Struct:
		for i := range v.NumField() {
			scramble(v.Field(i))
		}
	}
}

// P1: every function terminates and never panics, returns zero values beside an error, and the same when it is called again: what the model returns.
func TestAnyArguments(t *testing.T) {
	d := some{draw(13)}
	errors := map[string]map[api.Errno]bool{}
	for range 10000 {
		x := d.arguments()
		again, model := answers(x), modelAnswers(x)
		for i, y := range answers(x) {
			want(t, y.what+": the error again", again[i].e, y.e)
			want(t, "the error of "+y.what, y.e, model[i].e)
			if errors[y.what] == nil {
				errors[y.what] = map[api.Errno]bool{}
			}
			errors[y.what][y.e] = true
			for j, got := range y.results {
				want(t, y.what+" again", again[i].results[j], got)
				want(t, y.what, got, model[i].results[j])
				if y.e != api.OK {
					want(t, y.what+" beside an error", got, reflect.Zero(reflect.TypeOf(got)).Interface())
				}
			}
		}
	}
	for what, n := range map[string]int{
		"CheckContests": 5, "CheckTable": 4, "Points": 6, "Score": 7, "Standings": 6, "Nations": 6, "Lapses": 7, "Changed": 6,
		"CheckTour": 7, "Travel": 8, "Begins": 9, "Calendar": 8, "CheckQuota": 5, "Places": 5, "Open": 5, "Next": 7, "Withdraw": 6,
	} {
		want(t, "how many different errors "+what+" has returned", len(errors[what]), n)
	}
}

// P1: arguments are not modified, and results share no memory with them.
func TestMemory(t *testing.T) {
	for seed := range int64(1000) {
		before := some{draw(seed)}.arguments()
		x := some{draw(seed)}.arguments()
		wanted := answers(x)
		want(t, "the arguments", reflect.DeepEqual(x, before), true)
		for _, y := range answers(x) {
			for _, got := range y.results {
				scramble(reflect.ValueOf(got))
			}
		}
		want(t, "the arguments behind changes of results", reflect.DeepEqual(x, before), true)
		for i, y := range answers(x) {
			for j, got := range y.results {
				want(t, y.what+" behind changes of results", got, wanted[i].results[j])
			}
		}
	}
}

// P1: both lists of Withdraw share no memory.
func TestMemoryOfWithdraw(t *testing.T) {
	q := season.Quota{Lists: []season.List{list("a", 2, entries(6)...)}, Cap: 9}
	lose, get, _ := season.Withdraw(q, nil, "c1")
	scramble(reflect.ValueOf(lose))
	want(t, "who gets a place", get, []string{"c3"})
}

// P1: what is behind the end of an argument stays as it is.
func TestMemoryBehindArguments(t *testing.T) {
	withdrawn := append(make([]string, 0, 9), "zoe")
	_, _, e := season.Withdraw(quota(), withdrawn, "ann")
	want(t, "the error", e, api.OK)
	want(t, "behind those who have withdrawn", withdrawn[:2], []string{"zoe", ""})
	order := append(make([]int, 0, 9), 2, 0, 1)
	_, e = season.Begins(tour(), order)
	want(t, "the error", e, api.OK)
	want(t, "behind an order", order[:4], []int{2, 0, 1, 0})
}

// P1: arguments that are far too long come to an end with their errors.
func TestLongArguments(t *testing.T) {
	const long = 3000000
	x := arguments{
		contests: make([]season.Contest, long), others: make([]season.Contest, long), table: make([]int, long),
		tour:  season.Tour{Hosts: make([]season.Host, long), Travel: make([][]int, long)},
		order: make([]int, long), quota: season.Quota{Lists: make([]season.List, long)}, withdrawn: make([]string, long),
		climber: strings.Repeat("a", long),
	}
	for i := range x.order {
		x.order[i] = i
	}
	for _, y := range answers(x) {
		e := api.ErrMany
		if y.what == "Points" {
			e = api.ErrName
		}
		want(t, "the error of "+y.what, y.e, e)
	}
	want(t, "the error of many lines", season.CheckContests([]season.Contest{{Name: "a", Lines: make([]season.Line, long)}}), api.ErrMany)
	want(t, "the error of many entries", season.CheckQuota(season.Quota{Lists: []season.List{{Name: "a", Entries: make([]season.Entry, long)}}}), api.ErrMany)
	want(t, "the error of a long row", season.CheckTour(season.Tour{Hosts: hosts(1), Travel: [][]int{x.order}}), api.ErrShape)
	want(t, "the error of many rows", season.CheckTour(season.Tour{Hosts: hosts(1), Travel: x.tour.Travel}), api.ErrShape)
	_, e := season.Travel(tour(), x.order)
	want(t, "the error of a long order", e, api.ErrShape)
	_, e = season.Points(season.Contest{Name: "a"}, x.table)
	want(t, "the error of a long table", e, api.ErrMany)
	_, _, e = season.Score(nil, nil, rule(1, 1, 1), x.climber, 1)
	want(t, "the error of a long name", e, api.ErrName)
}
