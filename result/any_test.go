package result_test

import (
	"math"
	"reflect"
	"slices"
	"strings"
	"testing"

	"crux/api"
	"crux/result"
)

// arguments are those of all functions.
type arguments struct {
	round          []api.Result
	a, b           api.Result
	contest, other result.Contest
	one, two       string
	disciplines    [][]api.Result
	kind           string
	opens          []result.Open
	league         result.League
	climber, rank  int
	values         []int
	bars           []result.Bar
	winners, set   []int
	places         int
}

// answer is what a function returns: its results, and its error.
type answer struct {
	what    string
	results []any
	e       api.Errno
}

// answers returns what all functions return.
func answers(x arguments) []answer {
	order, orderError := result.Compare(x.a, x.b)
	ranks, ranksError := result.Rank(x.round)
	on, onError := result.Through(x.round, x.places)
	standing, standingError := result.Standing(x.contest)
	number, better, decidesError := result.Decides(x.contest, x.one, x.two)
	ties, tiesError := result.Ties(x.contest)
	changed, changedError := result.Changed(x.contest, x.other)
	totals, totalsError := result.Combined(x.disciplines, x.kind)
	possible, possibleError := result.Ranks(x.opens, x.climber)
	values, valuesError := result.Witness(x.opens, x.climber, x.rank)
	bars, barsError := result.Excluded(x.opens, x.climber, x.rank)
	winners, winnersError := result.Title(x.league, x.climber)
	set, setError := result.Eliminated(x.league, x.climber)
	return []answer{
		{"CheckRound", nil, result.CheckRound(x.round)},
		{"Compare", []any{order}, orderError},
		{"Rank", []any{ranks}, ranksError},
		{"Through", []any{on}, onError},
		{"CheckContest", nil, result.CheckContest(x.contest)},
		{"Standing", []any{standing}, standingError},
		{"Decides", []any{number, better}, decidesError},
		{"Ties", []any{ties}, tiesError},
		{"Changed", []any{changed}, changedError},
		{"Combined", []any{totals}, totalsError},
		{"CheckOpen", nil, result.CheckOpen(x.opens)},
		{"Ranks", []any{possible}, possibleError},
		{"Witness", []any{values}, valuesError},
		{"CheckWitness", nil, result.CheckWitness(x.opens, x.climber, x.rank, x.values)},
		{"Excluded", []any{bars}, barsError},
		{"CheckExcluded", nil, result.CheckExcluded(x.opens, x.climber, x.rank, x.bars)},
		{"CheckLeague", nil, result.CheckLeague(x.league)},
		{"Title", []any{winners}, winnersError},
		{"CheckTitle", nil, result.CheckTitle(x.league, x.climber, x.winners)},
		{"Eliminated", []any{set}, setError},
		{"CheckEliminated", nil, result.CheckEliminated(x.league, x.climber, x.set)},
	}
}

// some draws arguments of any form.
type some struct {
	drawing
}

func (d some) number() int {
	l := []int{0, 1, 2, 3, 5, 8, 9, 32, 33, 64, 65, 160, 161, api.MaxPoints, api.MaxPoints + 1, api.MaxNumber, api.MaxNumber + 1, -1, -api.MaxNumber, math.MaxInt, math.MinInt}
	return l[d.Intn(len(l))]
}

func (d some) word() string {
	l := []string{"", "c1", "c2", "a", "a b", "1", "\xff", "dns", "dnf", "dsq", "sum", "product", "above", "below", strings.Repeat("a", 5000)}
	return l[d.Intn(len(l))]
}

func (d some) numbers() []int {
	var l []int
	for range d.Intn(10) {
		l = append(l, d.number())
	}
	return l
}

func (d some) anyResult() api.Result {
	return api.Result{Climber: d.word(), State: d.word(), Values: d.numbers()}
}

func (d some) anyRound() []api.Result {
	return spoiled(d, d.drawing.round(names(d.Intn(5))), d.anyResult)
}

func (d some) anyOpen() result.Open {
	return open(d.word(), d.number(), d.number())
}

func (d some) anyBar() result.Bar {
	return bar(d.number(), d.number(), d.word())
}

func (d some) anyDuel() result.Duel {
	return result.Duel{A: d.number(), B: d.number()}
}

// spoiled returns a list in which something of any form may stand.
func spoiled[T any](d some, l []T, other func() T) []T {
	if d.Intn(6) == 0 && len(l) > 0 {
		l = slices.Clone(l)
		l[d.Intn(len(l))] = other()
	}
	if d.Intn(9) == 0 {
		l = append(slices.Clone(l), other())
	}
	if d.Intn(60) == 0 {
		return slices.Repeat([]T{other()}, d.Intn(300))
	}
	return l
}

// arguments returns arguments that fit to each other, or nearly so.
func (d some) arguments() arguments {
	x := arguments{
		round: d.drawing.round(names(d.Intn(8))), contest: d.contest(6), other: d.contest(6), disciplines: d.disciplines(3, 5),
		kind: []string{"sum", "product"}[d.Intn(2)], opens: d.opens(6, 6), league: d.league(9, 6),
		one: names(3)[d.Intn(3)], two: names(3)[d.Intn(3)], climber: d.Intn(6), rank: d.Intn(7), places: d.Intn(9),
	}
	x.a, x.b = d.drawing.round(names(1))[0], d.drawing.round(names(1))[0]
	for _, o := range x.opens {
		x.values = append(x.values, o.Low+d.Intn(o.High-o.Low+1))
	}
	x.bars, _ = result.Excluded(x.opens, x.climber, x.rank)
	x.winners, _ = result.Title(x.league, x.climber)
	x.set, _ = result.Eliminated(x.league, x.climber)
	if d.Intn(2) == 0 {
		return x
	}
	x.round = spoiled(d, x.round, d.anyResult)
	x.contest.Rounds = spoiled(d, x.contest.Rounds, d.anyRound)
	x.contest.Seeds = spoiled(d, x.contest.Seeds, d.word)
	x.disciplines = spoiled(d, x.disciplines, d.anyRound)
	x.opens = spoiled(d, x.opens, d.anyOpen)
	x.league.Climbers = spoiled(d, x.league.Climbers, d.word)
	x.league.Points = spoiled(d, x.league.Points, d.number)
	x.league.Duels = spoiled(d, x.league.Duels, d.anyDuel)
	x.values = spoiled(d, x.values, d.number)
	x.bars = spoiled(d, x.bars, d.anyBar)
	x.winners = spoiled(d, x.winners, d.number)
	x.set = spoiled(d, x.set, d.number)
	for _, n := range []*int{&x.climber, &x.rank, &x.places} {
		if d.Intn(6) == 0 {
			*n = d.number()
		}
	}
	for _, word := range []*string{&x.one, &x.two, &x.kind} {
		if d.Intn(6) == 0 {
			*word = d.word()
		}
	}
	for _, r := range []*api.Result{&x.a, &x.b} {
		if d.Intn(6) == 0 {
			*r = d.anyResult()
		}
	}
	return x
}

// scramble overwrites all lists in a result.
func scramble(v reflect.Value) {
	switch v.Kind() {
	case reflect.Slice:
		for i := range v.Len() {
			scramble(v.Index(i))
			v.Index(i).SetZero()
		}
		// What is behind the end of a list may belong to nobody else.
		whole := v.Slice3(0, v.Cap(), v.Cap())
		for i := v.Len(); i < v.Cap(); i++ {
			whole.Index(i).SetZero()
		}
	case reflect.Struct:
		for i := range v.NumField() {
			scramble(v.Field(i))
		}
	}
}

// modelDecidesError returns the error of Decides.
func modelDecidesError(c result.Contest, a, b string) api.Errno {
	if e := modelContest(c); e != api.OK {
		return e
	}
	_, hasA := resultOf(c.Rounds[0], a)
	_, hasB := resultOf(c.Rounds[0], b)
	return first(when(!hasA || !hasB, api.ErrUnknown), when(a == b, api.ErrTwice))
}

// modelErrors returns the errors of the functions that find no certificates.
func modelErrors(x arguments) map[string]api.Errno {
	round, contest := modelRound(x.round), modelContest(x.contest)
	return map[string]api.Errno{
		"CheckRound":      round,
		"Compare":         modelCompare(x.a, x.b),
		"Rank":            round,
		"Through":         first(round, when(outside(x.places, 0, 160), api.ErrRange)),
		"CheckContest":    contest,
		"Standing":        contest,
		"Decides":         modelDecidesError(x.contest, x.one, x.two),
		"Ties":            contest,
		"Changed":         first(contest, modelContest(x.other)),
		"Combined":        first(modelDisciplines(x.disciplines), when(x.kind != "sum" && x.kind != "product", api.ErrKind)),
		"CheckOpen":       modelOpen(x.opens),
		"Ranks":           first(modelOpen(x.opens), when(outside(x.climber, 0, len(x.opens)-1), api.ErrUnknown)),
		"CheckWitness":    modelWitness(x.opens, x.climber, x.rank, x.values),
		"CheckExcluded":   modelExcluded(x.opens, x.climber, x.rank, x.bars),
		"CheckLeague":     modelLeague(x.league),
		"CheckTitle":      modelTitle(x.league, x.climber, x.winners),
		"CheckEliminated": modelEliminated(x.league, x.climber, x.set),
	}
}

// P1: every function terminates and never panics, returns zero values beside an error, and the same when it is called again. The errors are those of the model.
func TestAnyArguments(t *testing.T) {
	d := some{draw(18)}
	for range 10000 {
		x := d.arguments()
		again, errors := answers(x), modelErrors(x)
		for i, y := range answers(x) {
			want(t, y.what+": the error again", again[i].e, y.e)
			want(t, y.what+": an error of the list", y.e >= api.OK && y.e <= api.ErrUnsafe, true)
			if e, ok := errors[y.what]; ok {
				want(t, "the error of "+y.what, y.e, e)
			}
			for j, got := range y.results {
				want(t, y.what+" again", again[i].results[j], got)
				if y.e != api.OK {
					want(t, y.what+" beside an error", got, reflect.Zero(reflect.TypeOf(got)).Interface())
				}
			}
		}
	}
}

// P1: arguments are not modified, and results share no memory with them.
func TestMemory(t *testing.T) {
	for seed := range int64(1000) {
		before := some{draw(seed)}.arguments()
		x := some{draw(seed)}.arguments()
		wanted := answers(x)
		want(t, "the arguments", reflect.DeepEqual(x, before), true)
		for _, y := range answers(x) {
			for _, got := range y.results {
				scramble(reflect.ValueOf(got))
			}
		}
		want(t, "the arguments behind changes of results", reflect.DeepEqual(x, before), true)
		for i, y := range answers(x) {
			for j, got := range y.results {
				want(t, y.what+" behind changes of results", got, wanted[i].results[j])
			}
		}
	}
}

// P1: the groups of ties share no memory with each other.
func TestMemoryOfTies(t *testing.T) {
	c := result.Contest{Rounds: [][]api.Result{{ended("a", 1), ended("b", 2), ended("c", 1), ended("d", 2), stateOf("e", "dns"), stateOf("f", "dns")}}}
	wanted, _ := result.Ties(c)
	want(t, "how many ties", len(wanted), 3)
	for i := range wanted {
		ties, _ := result.Ties(c)
		scramble(reflect.ValueOf(ties[i]))
		for j, group := range ties {
			if j != i {
				want(t, "another tie", group, wanted[j])
			}
		}
	}
}

// P1: the most of everything.
func TestLargestArguments(t *testing.T) {
	all := names(160)
	var l []api.Result
	for _, name := range all {
		l = append(l, ended(name, slices.Repeat([]int{-api.MaxNumber}, 8)...))
	}
	x := arguments{round: l, a: l[0], b: l[1], one: "c160", two: "c1", kind: "product", opens: opens(160), climber: 31, rank: 160, places: 160}
	x.contest = result.Contest{Rounds: slices.Repeat([][]api.Result{l}, 8), Seeds: all}
	x.other = x.contest
	x.disciplines = x.contest.Rounds
	x.values = slices.Repeat([]int{9}, 160)
	x.values[31] = 0
	x.bars = []result.Bar{bar(0, 9, "below")}
	x.league = result.League{Climbers: names(32), Points: slices.Repeat([]int{api.MaxPoints}, 32)}
	for i := range 64 {
		x.league.Duels = append(x.league.Duels, result.Duel{A: i % 31, B: (i + 1) % 31})
	}
	x.winners = make([]int, 64)
	for i, duel := range x.league.Duels {
		x.winners[i] = duel.A
	}
	for n := range 31 {
		x.set = append(x.set, n)
	}
	fails := map[string]api.Errno{"Excluded": api.ErrNone, "CheckExcluded": api.ErrProof, "Title": api.ErrInfeasible, "CheckTitle": api.ErrProof, "Eliminated": api.ErrLimit}
	for _, y := range answers(x) {
		want(t, y.what, y.e, fails[y.what])
	}
}

// P1: lists that are far too long.
func TestLongLists(t *testing.T) {
	const long = 1 << 20
	x := arguments{
		round: make([]api.Result, long), contest: result.Contest{Rounds: make([][]api.Result, long)}, disciplines: make([][]api.Result, long),
		opens: make([]result.Open, long), league: result.League{Climbers: make([]string, long)},
	}
	x.a.Values = make([]int, long)
	for _, y := range answers(x) {
		wanted := api.ErrMany
		if y.what == "Compare" {
			wanted = api.ErrName
		}
		want(t, y.what, y.e, wanted)
	}
	_, e := result.Compare(ended("a", x.a.Values...), ended("b"))
	want(t, "the error of many values", e, api.ErrMany)
	want(t, "the error of many seeds", result.CheckContest(with(make([]string, long), round(1))), api.ErrMany)
	want(t, "the error of many duels", result.CheckLeague(result.League{Climbers: names(2), Points: []int{0, 0}, Duels: make([]result.Duel, long)}), api.ErrMany)
	want(t, "the error of many values of a witness", result.CheckWitness(three(), 0, 1, x.a.Values), api.ErrShape)
	want(t, "the error of many winners", result.CheckTitle(league(), 0, x.a.Values), api.ErrShape)
	want(t, "the error of a long set", result.CheckEliminated(league(), 2, x.a.Values), api.ErrOrder)
	bars := []result.Bar{bar(4, 4, "above")}
	for i := range long {
		bars = append(bars, bar(5+i, 5+i, "below"))
	}
	want(t, "the error of many bars", result.CheckExcluded(three(), 0, 2, bars), api.ErrShape)
}
