package route

import (
	"math"
	"math/rand"
	"testing"

	"crux/api"
)

// anyNumbers are integers of every kind.
func anyNumbers() []int {
	return []int{0, 0, 1, 1, 2, 3, -1, -2, 64, 999, 1000, 4096, 100000, -100000, 100001, 400000, 400001, 1000000, 999999999, math.MaxInt, math.MinInt}
}

// some draws arguments of any form.
type some struct {
	*rand.Rand
}

func (r some) number() int {
	l := anyNumbers()
	return l[r.Intn(len(l))]
}

func (r some) name() string {
	return []string{"a", "b", "c", "d", "", "1", "a b", "\xff"}[r.Intn(8)]
}

func (r some) place() api.Place {
	if r.Intn(4) > 0 {
		return randomPlace(r.Rand, 5)
	}
	return place(r.number(), r.number(), r.number())
}

func (r some) numbers() []int {
	var l []int
	for range r.Intn(5) {
		l = append(l, r.number())
	}
	return l
}

// route returns a route, in half of the cases one that may have any errors.
func (r some) route() Route {
	route := randomRoute(r.Rand, 1+r.Intn(4), 5)
	if r.Intn(2) == 0 {
		return route
	}
	for range r.Intn(3) {
		h := Hold{r.name(), r.place(), r.number(), false}
		if i := r.Intn(len(route.Holds) + 1); i < len(route.Holds) {
			route.Holds[i] = h
		} else {
			route.Holds = append(route.Holds, h)
		}
	}
	route.Left, route.Right = r.number(), r.number()
	if r.Intn(9) == 0 {
		route.Holds = nil
	}
	return route
}

func (r some) setting() []Bolt {
	l := randomSetting(r.Rand, r.Intn(4), 5, 2)
	if r.Intn(3) == 0 {
		l = append(l, Bolt{r.place(), r.name()})
	}
	return l
}

// P1: every function of routes terminates and never panics, and gives the same result again.
func TestAnyRoutes(t *testing.T) {
	r := some{rand.New(rand.NewSource(19))}
	for range 20000 {
		route, reach := r.route(), r.number()
		var l []Move
		for range r.Intn(4) {
			l = append(l, Move{r.number(), r.number()})
		}
		var p [][]int
		for range r.Intn(4) {
			p = append(p, r.numbers())
		}
		_, e := Need(route)
		want(t, "the error of the route", e, CheckRoute(route))
		Moves(route, reach, State{r.number(), r.number()})
		Held(route, reach)
		Potentials(route, reach)
		CheckWay(route, reach, l)
		CheckPotentials(route, reach, p)
		Attempt(route, reach, l)
		Measure(route)
		Compare(route, r.route())
		Moved(route, r.place())
		Mirrored(route)
		way, e := Way(route, reach)
		again, f := Way(route, reach)
		want(t, "Way", again, way)
		want(t, "Way", f, e)
	}
}

// P1: the same for settings and notes.
func TestAnySettings(t *testing.T) {
	r := some{rand.New(rand.NewSource(20))}
	for range 20000 {
		a, b, store := r.setting(), r.setting(), r.number()
		var l []Step
		for range r.Intn(5) {
			l = append(l, Step{r.number(), r.number()})
		}
		CheckSetting(a)
		Plan(a, b, store)
		Prices(a, b, store)
		CheckPlan(a, b, store, l)
		CheckPrices(a, b, store, r.numbers(), r.numbers())
		cost, e := Cost(a, b, store)
		if e != api.OK {
			want(t, "beside an error", cost, 0)
		}
		var notes []Note
		for range r.Intn(6) {
			notes = append(notes, Note{r.name(), r.number(), r.number()})
		}
		_, _, e = InForce(notes)
		_, f := Grade(notes)
		want(t, "the error of the notes", f == e || e == api.OK && f == api.ErrNone, true)
	}
}

// P1: the largest arguments.
func TestLargest(t *testing.T) {
	r := ladder(64)
	for _, reach := range []int{10, 20, 300, 400000} {
		p, e := Potentials(r, reach)
		want(t, "Potentials", e, api.OK)
		way, _ := Way(r, reach)
		n, e := CheckPotentials(r, reach, p)
		want(t, "CheckPotentials", []any{n, e}, []any{len(way), api.OK})
	}
	m, e := Measure(r)
	want(t, "Measure", []any{m, e}, []any{Measures{10, 64, 100, span(630, 630), 64}, api.OK})
}
