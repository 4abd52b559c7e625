package start_test

import (
	"math"
	"reflect"
	"slices"
	"strings"
	"testing"

	"crux/api"
	"crux/start"
)

// arguments are those of all functions.
type arguments struct {
	starters []start.Starter
	order    []int
	names    []string
	races    []start.Race
	rounds   [][]start.Race
	a, b     start.Run
	results  []api.Result
	out      []string
	n        [5]int
}

// answer is what a function returns: its results, and its error.
type answer struct {
	what    string
	results []any
	e       api.Errno
}

// answers returns what all functions return.
func answers(x arguments) []answer {
	seeded, seededError := start.Seeded(x.starters, x.n[0])
	groups, groupsError := start.Groups(x.starters, x.n[1], x.n[0])
	one, two, routesError := start.Routes(x.order)
	pairs, pairsError := start.Neighbours(x.starters, x.order)
	fewest, fewestError := start.Fewest(x.starters)
	apart, apartError := start.Apart(x.starters)
	calls, callsError := start.Calls(x.n[0], x.n[1], x.n[2], x.n[3])
	inside, insideError := start.Isolated(x.n[0], x.n[1], x.n[2], x.n[3], x.n[4])
	slots, slotsError := start.Bracket(x.n[0])
	round, roundError := start.Meet(x.n[0], x.n[1], x.n[2])
	races, racesError := start.Races(x.names)
	next, nextError := start.Next(x.races)
	small, smallError := start.Small(x.races)
	winner, winnerError := start.Duel(x.a, x.b)
	places, placesError := start.Places(x.rounds)
	on, onError := start.Forward(x.results, x.n[0])
	others, othersError := start.Replace(x.results, x.n[0], x.out)
	return []answer{
		{"CheckStarters", nil, start.CheckStarters(x.starters)},
		{"Seeded", []any{seeded}, seededError},
		{"Groups", []any{groups}, groupsError},
		{"Routes", []any{one, two}, routesError},
		{"Neighbours", []any{pairs}, pairsError},
		{"Fewest", []any{fewest}, fewestError},
		{"Apart", []any{apart}, apartError},
		{"Calls", []any{calls}, callsError},
		{"Isolated", []any{inside}, insideError},
		{"Bracket", []any{slots}, slotsError},
		{"Meet", []any{round}, roundError},
		{"Races", []any{races}, racesError},
		{"CheckRaces", nil, start.CheckRaces(x.races)},
		{"Next", []any{next}, nextError},
		{"Small", []any{small}, smallError},
		{"Duel", []any{winner}, winnerError},
		{"Places", []any{places}, placesError},
		{"CheckResults", nil, start.CheckResults(x.results)},
		{"Forward", []any{on}, onError},
		{"Replace", []any{others}, othersError},
	}
}

// some draws arguments of any form.
type some struct {
	drawing
}

func (d some) number() int {
	l := []int{0, 1, 2, 3, 5, 16, 64, 65, 99, 100, 160, 161, api.MaxTime, api.MaxTime + 1, api.MaxNumber, api.MaxNumber + 1, -1, math.MaxInt, math.MinInt}
	return l[d.Intn(len(l))]
}

func (d some) word() string {
	l := []string{"", "c1", "c2", "a", "a b", "1", "\xff", "dns", "dnf", "dsq", strings.Repeat("a", 5000)}
	return l[d.Intn(len(l))]
}

func (d some) anyStarter() start.Starter {
	return starter(d.word(), d.word(), d.number())
}

func (d some) anyRace() start.Race {
	return race(d.word(), d.word(), d.number())
}

func (d some) anyRun() start.Run {
	return start.Run{Reaction: d.number(), Time: d.number()}
}

func (d some) anyResult() api.Result {
	r := stateOf(d.word(), d.word())
	for range d.Intn(10) {
		r.Values = append(r.Values, d.number())
	}
	return r
}

// spoiled returns a list in which something of any form may stand.
func spoiled[T any](d some, l []T, other func() T) []T {
	if d.Intn(6) == 0 && len(l) > 0 {
		l = slices.Clone(l)
		l[d.Intn(len(l))] = other()
	}
	if d.Intn(9) == 0 {
		l = append(slices.Clone(l), other())
	}
	if d.Intn(60) == 0 {
		return slices.Repeat([]T{other()}, d.Intn(300))
	}
	return l
}

// arguments returns arguments that fit to each other, or nearly so.
func (d some) arguments(t *testing.T) arguments {
	x := arguments{starters: d.starters(12), results: d.results(12), a: d.anyRun(), b: d.anyRun()}
	x.order = d.Perm(len(x.starters))
	x.names = names(d.Intn(12))
	x.rounds = d.bracket(t, 12)
	x.races = slices.Clone(x.rounds[max(0, len(x.rounds)-1-d.Intn(3))])
	for _, r := range x.results {
		if d.Intn(4) == 0 {
			x.out = append(x.out, r.Climber)
		}
	}
	for i := range x.n {
		x.n[i] = d.Intn(9)
		if d.Intn(6) == 0 {
			x.n[i] = d.number()
		}
	}
	if d.Intn(2) == 0 {
		return x
	}
	x.starters = spoiled(d, x.starters, d.anyStarter)
	x.order = spoiled(d, x.order, d.number)
	x.names = spoiled(d, x.names, d.word)
	x.races = spoiled(d, x.races, d.anyRace)
	x.rounds = spoiled(d, x.rounds, func() []start.Race { return spoiled(d, slices.Clone(x.races), d.anyRace) })
	x.results = spoiled(d, x.results, d.anyResult)
	x.out = spoiled(d, x.out, d.word)
	return x
}

// scramble overwrites all lists in a result.
func scramble(v reflect.Value) {
	switch v.Kind() {
	case reflect.Slice:
		for i := range v.Len() {
			scramble(v.Index(i))
			v.Index(i).SetZero()
		}
		// What is behind the end of a list may belong to nobody else.
		whole := v.Slice3(0, v.Cap(), v.Cap())
		for i := v.Len(); i < v.Cap(); i++ {
			whole.Index(i).SetZero()
		}
	case reflect.Struct:
		for i := range v.NumField() {
			scramble(v.Field(i))
		}
	}
}

// wantError compares the error of a function with that of the model.
func wantError(t *testing.T, all []answer, what string, e api.Errno) {
	t.Helper()
	for _, y := range all {
		if y.what == what {
			want(t, "the error of "+what, y.e, e)
		}
	}
}

// first returns the first error that is not OK.
func first(l ...api.Errno) api.Errno {
	for _, e := range l {
		if e != api.OK {
			return e
		}
	}
	return api.OK
}

// quota returns the error of a quota.
func quota(n int) api.Errno {
	if outside(n, 0, 160) {
		return api.ErrRange
	}
	return api.OK
}

// P1: every function terminates and never panics, returns zero values beside an error, and the same when it is called again. The errors are those of the model.
func TestAnyArguments(t *testing.T) {
	d := some{draw(13)}
	for range 5000 {
		x := d.arguments(t)
		all, again := answers(x), answers(x)
		for i, y := range all {
			want(t, y.what+": the error again", again[i].e, y.e)
			want(t, y.what+": an error of the list", y.e >= api.OK && y.e <= api.ErrUnsafe, true)
			for j, result := range y.results {
				want(t, y.what+" again", again[i].results[j], result)
				if y.e != api.OK {
					want(t, y.what+" beside an error", result, reflect.Zero(reflect.TypeOf(result)).Interface())
				}
			}
		}
		starters, results := modelStarters(x.starters), modelResults(x.results)
		_, places := modelPlaces(x.rounds)
		wantError(t, all, "CheckStarters", starters)
		wantError(t, all, "Seeded", first(starters, modelKey(x.n[0])))
		wantError(t, all, "Routes", modelNumbers(x.order))
		wantError(t, all, "Neighbours", first(starters, modelOrder(len(x.starters), x.order)))
		wantError(t, all, "Apart", starters)
		wantError(t, all, "Calls", modelCalls(x.n[0], x.n[1], x.n[2], x.n[3]))
		wantError(t, all, "Isolated", modelCalls(x.n[0], x.n[1], x.n[2], x.n[3], x.n[4]))
		wantError(t, all, "CheckRaces", modelCheckRaces(x.races))
		wantError(t, all, "Places", places)
		wantError(t, all, "CheckResults", results)
		wantError(t, all, "Forward", first(results, quota(x.n[0])))
		wantError(t, all, "Replace", first(results, quota(x.n[0]), modelOut(x.results, x.out)))
	}
}

// P1: arguments are not modified, and results share no memory with them or with each other.
func TestMemory(t *testing.T) {
	for seed := range int64(1000) {
		before := some{draw(seed)}.arguments(t)
		x := some{draw(seed)}.arguments(t)
		wanted := answers(x)
		want(t, "the arguments", reflect.DeepEqual(x, before), true)
		for i, y := range answers(x) {
			for j, result := range y.results {
				scramble(reflect.ValueOf(result))
				for k, other := range y.results {
					if k > j {
						want(t, y.what+": another result", other, wanted[i].results[k])
					}
				}
			}
		}
		want(t, "the arguments behind changes of results", reflect.DeepEqual(x, before), true)
		for i, y := range answers(x) {
			for j, result := range y.results {
				want(t, y.what+" behind changes of results", result, wanted[i].results[j])
			}
		}
	}
}

// P1: the lists of groups share no memory with each other.
func TestMemoryOfGroups(t *testing.T) {
	wanted, _ := start.Groups(starters(20), 3, 1)
	for i := range wanted {
		lists, _ := start.Groups(starters(20), 3, 1)
		scramble(reflect.ValueOf(lists[i]))
		for j, list := range lists {
			if j != i {
				want(t, "another group", list, wanted[j])
			}
		}
	}
}

// P1: the most of everything.
func TestLargestArguments(t *testing.T) {
	x := arguments{starters: starters(160), order: draw(14).Perm(160), names: names(64), races: decided(open(32), slices.Repeat([]int{3}, 32)...)}
	x.rounds = [][]start.Race{x.races}
	for len(x.rounds) < 6 {
		next, _ := start.Next(x.rounds[len(x.rounds)-1])
		x.rounds = append(x.rounds, next)
	}
	for _, name := range names(160) {
		x.results = append(x.results, result(name, slices.Repeat([]int{api.MaxNumber}, 8)...))
	}
	x.a = start.Run{Reaction: api.MaxTime, Time: api.MaxTime}
	x.out, x.n = names(159), [5]int{64, 1, 2, 3, 4}
	for _, y := range answers(x) {
		want(t, y.what, y.e == api.OK || y.what == "Small" && y.e == api.ErrShape, true)
	}
}

// P1: lists that are far too long.
func TestLongLists(t *testing.T) {
	const long = 1 << 20
	x := arguments{
		starters: make([]start.Starter, long), order: make([]int, long), names: make([]string, long), races: make([]start.Race, long),
		rounds: make([][]start.Race, long), results: make([]api.Result, long), out: make([]string, long),
	}
	for i := range x.order {
		x.order[i] = i
	}
	for _, y := range answers(x) {
		want(t, y.what, y.e == api.OK, slices.Contains([]string{"Calls", "Isolated", "Duel"}, y.what))
	}
	_, e := start.Neighbours(four(), x.order)
	want(t, "the error of a long order", e, api.ErrUnknown)
	_, e = start.Places([][]start.Race{x.races})
	want(t, "the error of a long round", e, api.ErrShape)
	_, e = start.Forward([]api.Result{{Climber: "a", Values: make([]int, long)}}, 1)
	want(t, "the error of many values", e, api.ErrMany)
	_, e = start.Replace(fiveResults(), 1, make([]string, long))
	want(t, "the error of many who have withdrawn", e, api.ErrMany)
}
