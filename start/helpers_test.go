package start_test

import (
	"math/rand"
	"reflect"
	"strconv"
	"strings"
	"testing"

	"crux/api"
	"crux/start"
)

// longName is the longest name, and tooLong is none.
var (
	longName = strings.Repeat("a", 24)
	tooLong  = strings.Repeat("a", 25)
)

// want reports a result that is not the wanted one. Nil and empty lists are equal, wherever they are.
func want(t *testing.T, what string, got, wanted any) {
	t.Helper()
	if !alike(reflect.ValueOf(got), reflect.ValueOf(wanted)) {
		t.Errorf("%s: got %+v, want %+v", what, got, wanted)
	}
}

func alike(a, b reflect.Value) bool {
	if a.Type() != b.Type() {
		return false
	}
	switch a.Kind() {
	case reflect.Slice:
		if a.Len() != b.Len() {
			return false
		}
		for i := range a.Len() {
			if !alike(a.Index(i), b.Index(i)) {
				return false
			}
		}
		return true
	case reflect.Struct:
		for i := range a.NumField() {
			if !alike(a.Field(i), b.Field(i)) {
				return false
			}
		}
		return true
	}
	return a.Equal(b)
}

// starter returns a starter.
func starter(name, nation string, seed int) start.Starter {
	return start.Starter{Name: name, Nation: nation, Seed: seed}
}

// four are the starters of the chapter.
func four() []start.Starter {
	return []start.Starter{starter("ann", "north", 2), starter("ben", "north", 0), starter("cia", "south", 1), starter("dan", "north", 3)}
}

// names returns n names.
func names(n int) []string {
	var l []string
	for i := range n {
		l = append(l, "c"+strconv.Itoa(i+1))
	}
	return l
}

// starters returns n starters of one nation, without seeds.
func starters(n int) []start.Starter {
	var l []start.Starter
	for _, name := range names(n) {
		l = append(l, starter(name, "north", 0))
	}
	return l
}

// ofNations returns a starter of each nation; the nations are letters.
func ofNations(nations string) []start.Starter {
	l := starters(len(nations))
	for i := range l {
		l[i].Nation = nations[i : i+1]
	}
	return l
}

// race returns a race.
func race(a, b string, winner int) start.Race {
	return start.Race{A: a, B: b, Winner: winner}
}

// open returns n races between two climbers that are not decided.
func open(n int) []start.Race {
	l := names(2 * n)
	var races []start.Race
	for i := range n {
		races = append(races, race(l[2*i], l[2*i+1], 0))
	}
	return races
}

// decided returns a copy of races in which the winners of those that are open are set, from the first one on.
func decided(l []start.Race, winners ...int) []start.Race {
	l = append([]start.Race(nil), l...)
	for i := range l {
		if l[i].Winner == 0 && len(winners) > 0 {
			l[i].Winner, winners = winners[0], winners[1:]
		}
	}
	return l
}

// five are the rounds of the bracket of the chapter.
func five() [][]start.Race {
	return [][]start.Race{
		{race("a", "", 1), race("d", "e", 2), race("b", "", 1), race("c", "", 1)},
		{race("a", "e", 1), race("b", "c", 2)},
		{race("a", "c", 2)},
	}
}

// result returns a result without a state.
func result(climber string, values ...int) api.Result {
	return api.Result{Climber: climber, Values: values}
}

// stateOf returns a result with a state.
func stateOf(climber, state string) api.Result {
	return api.Result{Climber: climber, State: state}
}

// fiveResults are the results of the chapter.
func fiveResults() []api.Result {
	return []api.Result{result("a", 3), result("b", 2), result("c", 2), result("d", 1), stateOf("e", "dnf")}
}

// drawing draws arguments.
type drawing struct {
	*rand.Rand
}

func draw(seed int64) drawing {
	return drawing{rand.New(rand.NewSource(seed))}
}

// starters returns up to n starters of a few nations, often with equal seeds.
func (d drawing) starters(n int) []start.Starter {
	l := starters(d.Intn(n + 1))
	nations := 1 + d.Intn(4)
	for i := range l {
		l[i].Nation = "n" + strconv.Itoa(d.Intn(nations)*d.Intn(2))
		l[i].Seed = d.Intn(5)
	}
	return l
}

// decided returns a copy of races in which all are decided.
func (d drawing) decided(l []start.Race) []start.Race {
	for {
		l = decided(l, 1+d.Intn(2)+d.Intn(6)/5)
		if modelDecided(l) {
			return l
		}
	}
}

// bracket returns the rounds of a bracket of up to n climbers, all of them decided.
func (d drawing) bracket(t *testing.T, n int) [][]start.Race {
	t.Helper()
	l, e := start.Races(names(1 + d.Intn(n)))
	want(t, "the error of Races", e, api.OK)
	rounds := [][]start.Race{d.decided(l)}
	for len(l) > 1 {
		l, e = start.Next(rounds[len(rounds)-1])
		want(t, "the error of Next", e, api.OK)
		rounds = append(rounds, d.decided(l))
	}
	return rounds
}

// results returns up to n results with values that are often equal.
func (d drawing) results(n int) []api.Result {
	var l []api.Result
	values := 1 + d.Intn(3)
	for _, name := range names(d.Intn(n + 1)) {
		r := api.Result{Climber: name}
		if d.Intn(5) == 0 {
			r.State = []string{"dns", "dnf", "dsq"}[d.Intn(3)]
		} else {
			for range values {
				r.Values = append(r.Values, d.Intn(5)-2)
			}
		}
		l = append(l, r)
	}
	return l
}
