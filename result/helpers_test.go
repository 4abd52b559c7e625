package result_test

import (
	"math/rand"
	"reflect"
	"slices"
	"strconv"
	"strings"
	"testing"

	"crux/api"
	"crux/result"
)

// longName is the longest name, and tooLong is none.
var (
	longName = strings.Repeat("a", 24)
	tooLong  = strings.Repeat("a", 25)
)

// want reports a result that is not the wanted one. Nil and empty lists are equal, wherever they are.
func want(t *testing.T, what string, got, wanted any) {
	t.Helper()
	if !alike(reflect.ValueOf(got), reflect.ValueOf(wanted)) {
		t.Errorf("%s: got %+v, want %+v", what, got, wanted)
	}
}

func alike(a, b reflect.Value) bool {
	if a.Type() != b.Type() {
		return false
	}
	switch a.Kind() {
	case reflect.Slice:
		if a.Len() != b.Len() {
			return false
		}
		for i := range a.Len() {
			if !alike(a.Index(i), b.Index(i)) {
				return false
			}
		}
		return true
	case reflect.Struct:
		for i := range a.NumField() {
			if !alike(a.Field(i), b.Field(i)) {
				return false
			}
		}
		return true
	}
	return a.Equal(b)
}

// ended returns a result without a state.
func ended(climber string, values ...int) api.Result {
	return api.Result{Climber: climber, Values: values}
}

// stateOf returns a result with a state.
func stateOf(climber, state string) api.Result {
	return api.Result{Climber: climber, State: state}
}

// four are the results of example 1.
func four() []api.Result {
	return []api.Result{ended("ann", 3, 2), ended("bea", 3, 1), ended("cat", 3, 2), stateOf("dan", "dnf")}
}

// two is the contest of example 2.
func two() result.Contest {
	return result.Contest{
		Rounds: [][]api.Result{
			{ended("ann", 10), ended("bea", 12), ended("cat", 10), ended("dan", 5)},
			{ended("ann", 7), ended("bea", 7), ended("cat", 9)},
		},
		Seeds: []string{"dan", "ann"},
	}
}

// tied is the contest of example 3, without seeds.
func tied() result.Contest {
	c := two()
	c.Rounds[0][1].Values[0] = 10
	c.Seeds = nil
	return c
}

// both are the disciplines of example 4.
func both() [][]api.Result {
	return [][]api.Result{
		{ended("ann", 3), ended("bea", 2), ended("cat", 1)},
		{ended("ann", 1), ended("bea", 5), ended("cat", 5)},
	}
}

// open returns an open value.
func open(climber string, low, high int) result.Open {
	return result.Open{Climber: climber, Low: low, High: high}
}

// three are the open values of example 5.
func three() []result.Open {
	return []result.Open{open("ann", 4, 6), open("bea", 5, 5), open("cat", 5, 5)}
}

// league is the league of example 6.
func league() result.League {
	return result.League{
		Climbers: []string{"a", "b", "c", "d"},
		Points:   []int{2, 2, 1, 0},
		Duels:    []result.Duel{{A: 0, B: 1}, {A: 2, B: 3}},
	}
}

// names returns n names.
func names(n int) []string {
	var l []string
	for i := range n {
		l = append(l, "c"+strconv.Itoa(i+1))
	}
	return l
}

// round returns n results without states that are equal.
func round(n int) []api.Result {
	var l []api.Result
	for _, name := range names(n) {
		l = append(l, ended(name, 1))
	}
	return l
}

// opens returns n open values from 0 to 9.
func opens(n int) []result.Open {
	var l []result.Open
	for _, name := range names(n) {
		l = append(l, open(name, 0, 9))
	}
	return l
}

// drawing draws arguments.
type drawing struct {
	*rand.Rand
}

func draw(seed int64) drawing {
	return drawing{rand.New(rand.NewSource(seed))}
}

// round returns results of climbers, in any order, with values that are often equal.
func (d drawing) round(climbers []string) []api.Result {
	values := d.Intn(3)
	states := d.Intn(5)
	var l []api.Result
	for _, i := range d.Perm(len(climbers)) {
		r := api.Result{Climber: climbers[i]}
		if d.Intn(6) < states {
			r.State = []string{"dns", "dnf", "dsq"}[d.Intn(3)]
		} else {
			for range values {
				r.Values = append(r.Values, d.Intn(3)-1)
			}
		}
		l = append(l, r)
	}
	return l
}

// some returns some of the names of a list, in any order.
func (d drawing) some(l []string) []string {
	l = slices.Clone(l)
	d.Shuffle(len(l), func(i, j int) { l[i], l[j] = l[j], l[i] })
	return l[:d.Intn(len(l)+1)]
}

// contest returns a contest of up to n climbers.
func (d drawing) contest(n int) result.Contest {
	climbers := names(d.Intn(n + 1))
	c := result.Contest{Rounds: [][]api.Result{d.round(climbers)}, Seeds: d.some(climbers)}
	for range d.Intn(4) {
		climbers = d.some(climbers)
		c.Rounds = append(c.Rounds, d.round(climbers))
	}
	return c
}

// disciplines returns up to m disciplines of up to n climbers.
func (d drawing) disciplines(m, n int) [][]api.Result {
	climbers := names(d.Intn(n + 1))
	l := [][]api.Result{d.round(climbers)}
	for range d.Intn(m) {
		l = append(l, d.round(climbers))
	}
	return l
}

// opens returns up to n open values with ends up to a greatest one.
func (d drawing) opens(n, greatest int) []result.Open {
	l := opens(1 + d.Intn(n))
	for i := range l {
		a, b := d.Intn(greatest+1), d.Intn(greatest+1)
		l[i].Low, l[i].High = min(a, b), max(a, b)
	}
	return l
}

// league returns a league of up to n climbers with up to m duels.
func (d drawing) league(n, m int) result.League {
	l := result.League{Climbers: names(1 + d.Intn(n))}
	greatest := 1 + d.Intn(4)
	for range l.Climbers {
		l.Points = append(l.Points, d.Intn(greatest))
	}
	if len(l.Climbers) == 1 {
		return l
	}
	for range d.Intn(m + 1) {
		pair := d.Perm(len(l.Climbers))
		l.Duels = append(l.Duels, result.Duel{A: pair[0], B: pair[1]})
	}
	return l
}
