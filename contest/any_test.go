package contest_test

import (
	"math"
	"math/rand"
	"reflect"
	"slices"
	"strings"
	"testing"

	"crux/api"
	"crux/contest"
)

// arguments are those of all functions.
type arguments struct {
	r       contest.Round
	s       contest.State
	e       contest.Entry
	a, b    []contest.Entry
	rulings []contest.Ruling
	appeals []contest.Appeal
	climber int
}

// answer is what a function returns: its results, and its error.
type answer struct {
	what    string
	results []any
	e       api.Errno
}

// answers returns what all functions return.
func answers(x arguments) []answer {
	start, startError := contest.Start(x.r)
	rule, ruleError := contest.Legal(x.r, x.s, x.e)
	next, nextError := contest.Next(x.r, x.s, x.e)
	replayed, aside, replayError := contest.Replay(x.r, x.a)
	stand, standError := contest.Apply(x.r, x.a, x.rulings)
	differ, differError := contest.Differences(x.r, x.a, x.b)
	both, bothError := contest.Reconcile(x.r, x.a, x.b, x.rulings)
	upheld, fees, judgeError := contest.Judge(x.r, x.a, x.appeals)
	changed, changedError := contest.Changed(x.r, x.a, x.b)
	tickets, ticketsError := contest.Tickets(x.r, x.s, x.climber)
	sheet, sheetError := contest.Sheet(x.r, x.s, x.climber)
	results, resultsError := contest.Results(x.r, x.s)
	waiting, waitingError := contest.Waiting(x.r, x.s)
	return []answer{
		{"CheckRound", nil, contest.CheckRound(x.r)},
		{"CheckState", nil, contest.CheckState(x.r, x.s)},
		{"CheckEntry", nil, contest.CheckEntry(x.r, x.e)},
		{"CheckLog", nil, contest.CheckLog(x.r, x.a)},
		{"Start", []any{start}, startError},
		{"Legal", []any{rule}, ruleError},
		{"Next", []any{next}, nextError},
		{"Replay", []any{replayed, aside}, replayError},
		{"Apply", []any{stand}, standError},
		{"Differences", []any{differ}, differError},
		{"Reconcile", []any{both}, bothError},
		{"Judge", []any{upheld, fees}, judgeError},
		{"Changed", []any{changed}, changedError},
		{"Tickets", []any{tickets}, ticketsError},
		{"Sheet", []any{sheet}, sheetError},
		{"Results", []any{results}, resultsError},
		{"Waiting", []any{waiting}, waitingError},
	}
}

// some draws arguments of any form.
type some struct {
	drawing
}

func (d some) number() int {
	l := []int{0, 0, 1, 2, 3, 8, 9, 64, 65, 99, 100, 256, 257, api.MaxTime, api.MaxTime + 1, -1, -2, math.MaxInt, math.MinInt}
	return l[d.Intn(len(l))]
}

func (d some) word() string {
	l := append([]string{"", "lead", "boulder", "speed", "waiting", "on", "done", "dns", "dnf", "dsq", "a b", "\xff", "ann", strings.Repeat("a", 5000)}, kinds...)
	return l[d.Intn(len(l))]
}

// anyEntry returns an entry of any form.
func (d some) anyEntry() contest.Entry {
	return contest.Entry{Climber: d.number(), Kind: d.word(), Value: d.number(), Time: d.number()}
}

func (d some) anyRound() contest.Round {
	r := d.drawing.round()
	switch d.Intn(8) {
	case 0:
		r.Discipline = d.word()
	case 1:
		r.Size, r.Limit = d.number(), d.number()
	case 2:
		r.Climbers = append(r.Climbers, d.word())
	case 3:
		r.Climbers = r.Climbers[:d.Intn(2)]
	}
	return r
}

func (d some) anyClimb() contest.Climb {
	c := contest.Climb{
		Phase: d.word(), State: d.word(), Place: d.number(), Began: d.number(), Used: d.number(), Hold: d.number(),
		Plus: d.Intn(2) == 0, Top: d.Intn(2) == 0, Open: d.Intn(2) == 0,
	}
	for range d.Intn(3) {
		c.Tries = append(c.Tries, contest.Try{Attempts: d.number(), Zone: d.number(), Top: d.number(), Visited: d.Intn(2) == 0})
		c.Runs = append(c.Runs, d.number())
	}
	return c
}

// spoiled returns a list in which something of any form may stand.
func spoiled[T any](d some, l []T, other func() T) []T {
	if d.Intn(4) == 0 && len(l) > 0 {
		l = slices.Clone(l)
		l[d.Intn(len(l))] = other()
	}
	if d.Intn(40) == 0 {
		return slices.Repeat([]T{other()}, d.Intn(300))
	}
	return l
}

// arguments returns arguments that fit to each other, or nearly so.
func (d some) arguments() arguments {
	r := d.drawing.round()
	x := arguments{r: r, s: d.state(r), e: d.entry(r, 20), a: d.log(r, 12), climber: d.Intn(3)}
	x.b = slices.Clone(x.a)
	for range d.Intn(4) {
		x.rulings = append(x.rulings, d.ruling(r, 12))
		x.appeals = append(x.appeals, appeal(d.Intn(len(r.Climbers)), d.Intn(20), d.ruling(r, max(1, len(x.a))), d.Intn(2) == 0))
	}
	if d.Intn(2) == 0 {
		return x
	}
	if d.Intn(3) == 0 {
		x.r = d.anyRound()
	}
	if d.Intn(3) == 0 {
		x.e, x.climber = d.anyEntry(), d.number()
	}
	if d.Intn(3) == 0 {
		d.spoil(&x.s.Climbs[0])
	}
	if d.Intn(9) == 0 {
		x.s.Time = d.number()
	}
	x.s.Climbs = spoiled(d, x.s.Climbs, d.anyClimb)
	x.a, x.b = spoiled(d, x.a, d.anyEntry), spoiled(d, x.b, d.anyEntry)
	anyRuling := func() contest.Ruling {
		return contest.Ruling{Number: d.number(), Void: d.Intn(2) == 0, Entry: d.anyEntry()}
	}
	x.rulings = spoiled(d, x.rulings, anyRuling)
	x.appeals = spoiled(d, x.appeals, func() contest.Appeal { return appeal(d.number(), d.number(), anyRuling(), true) })
	return x
}

// scramble overwrites all lists in a result.
func scramble(v reflect.Value) {
	switch v.Kind() {
	case reflect.Slice:
		for i := range v.Len() {
			scramble(v.Index(i))
			v.Index(i).SetZero()
		}
	case reflect.Struct:
		for i := range v.NumField() {
			scramble(v.Field(i))
		}
	}
}

// P1: every function terminates and never panics, returns zero values beside an error, and the same when it is called again.
func TestAnyArguments(t *testing.T) {
	d := some{draw(11)}
	for range 3000 {
		x := d.arguments()
		again := answers(x)
		for i, y := range answers(x) {
			want(t, y.what+": the error again", again[i].e, y.e)
			want(t, y.what+": an error of the list", y.e >= api.OK && y.e <= api.ErrUnsafe, true)
			for j, result := range y.results {
				want(t, y.what+" again", again[i].results[j], result)
				if y.e != api.OK {
					want(t, y.what+" beside an error", result, reflect.Zero(reflect.TypeOf(result)).Interface())
				}
			}
		}
	}
}

// P1: arguments are not modified, and results share no memory with them or with each other.
func TestMemory(t *testing.T) {
	for seed := range int64(800) {
		before := some{draw(seed)}.arguments()
		x := some{draw(seed)}.arguments()
		wanted := answers(x)
		want(t, "the arguments", reflect.DeepEqual(x, before), true)
		for i, y := range answers(x) {
			for j, result := range y.results {
				scramble(reflect.ValueOf(result))
				for k, other := range y.results {
					if k > j {
						want(t, y.what+": another result", other, wanted[i].results[k])
					}
				}
			}
		}
		want(t, "the arguments behind changes of results", reflect.DeepEqual(x, before), true)
		for i, y := range answers(x) {
			for j, result := range y.results {
				want(t, y.what+" behind changes of results", result, wanted[i].results[j])
			}
		}
	}
}

// P1: the climbs of a state share no memory with each other, and the lists of a climb have none to spare that another state could see.
func TestMemoryOfClimbs(t *testing.T) {
	r := round("boulder", 3, 2, 9)
	s, _ := contest.Start(r)
	s.Climbs[0].Tries[0].Visited = true
	want(t, "another climb", s.Climbs[1].Tries[0], contest.Try{})
	r = round("speed", 1, 4, 9)
	s = after(t, r, entry(0, "start", 0, 1), entry(0, "finish", 9, 1), entry(0, "start", 9, 1), entry(0, "finish", 19, 2), entry(0, "start", 19, 1))
	one, _ := contest.Next(r, s, entry(0, "finish", 30, 3))
	two, _ := contest.Next(r, s, entry(0, "finish", 30, 4))
	want(t, "the runs of one state", one.Climbs[0].Runs, []int{1, 2, 3})
	want(t, "the runs of another state", two.Climbs[0].Runs, []int{1, 2, 4})
}

// P1: the most of everything.
func TestLargestArguments(t *testing.T) {
	r := round("boulder", 160, 8, 1000)
	d := some{drawing{rand.New(rand.NewSource(12))}}
	var l []contest.Entry
	for i := range 256 {
		l = append(l, entry(i%160, "start", api.MaxTime, 1+i%8))
	}
	x := arguments{r: r, e: l[0], a: l, b: l[:255], climber: 159}
	x.s, _ = contest.Start(r)
	for range 256 {
		x.rulings = append(x.rulings, d.ruling(r, 256))
		x.appeals = append(x.appeals, appeal(d.Intn(160), 256, d.ruling(r, 256), false))
	}
	for _, y := range answers(x) {
		want(t, y.what, y.e == api.OK || y.what == "Results" && y.e == api.ErrOpen || y.what == "Reconcile", true)
	}
}
