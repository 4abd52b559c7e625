package route

import (
	"math/rand"
	"reflect"
	"strconv"
	"testing"

	"crux/api"
)

// want reports a result that is not the wanted one. Nil and empty lists are equal.
func want(t *testing.T, what string, got, wanted any) {
	t.Helper()
	x, y := reflect.ValueOf(got), reflect.ValueOf(wanted)
	if x.Kind() == reflect.Slice && x.Type() == y.Type() && x.Len() == 0 && y.Len() == 0 {
		return
	}
	if !reflect.DeepEqual(got, wanted) {
		t.Errorf("%s: got %v, want %v", what, got, wanted)
	}
}

func place(x, y, z int) api.Place {
	return api.Place{X: x, Y: y, Z: z}
}

// The moves of a hand to a hold.
func left(to int) Move  { return Move{0, to} }
func right(to int) Move { return Move{1, to} }

// example is the route R of the chapter's examples.
func example() Route {
	return Route{"R", []Hold{
		{"a", place(0, 0, 0), 0, false},
		{"b", place(300, 0, 400), 1, false},
		{"c", place(0, 0, 900), 2, true},
		{"d", place(300, 0, 1300), 3, false},
	}, 0, 0}
}

// line is a route of holds above each other, at these heights, with both hands at the first one.
func line(heights ...int) Route {
	r := Route{Name: "line"}
	for i, z := range heights {
		r.Holds = append(r.Holds, Hold{"h" + strconv.Itoa(i), place(0, 0, z), i, false})
	}
	return r
}

// ladder is a line of n holds, 10 apart.
func ladder(n int) Route {
	var heights []int
	for i := range n {
		heights = append(heights, 10*i)
	}
	return line(heights...)
}

// with returns a route that has been edited.
func (r Route) with(edit func(r *Route)) Route {
	r.Holds = append([]Hold{}, r.Holds...)
	edit(&r)
	return r
}

func randomPlace(r *rand.Rand, size int) api.Place {
	n := func() int { return r.Intn(2*size+1) - size }
	return place(n(), n(), n())
}

// randomRoute returns a route of n holds, some of them zones, whose coordinates are up to a size.
func randomRoute(r *rand.Rand, n, size int) Route {
	for {
		route := Route{"random", nil, r.Intn(n), r.Intn(n)}
		value := 0
		for i := range n {
			value += r.Intn(3)
			route.Holds = append(route.Holds, Hold{"h" + strconv.Itoa(i), randomPlace(r, size), value, r.Intn(3) == 0})
		}
		if CheckRoute(route) == api.OK {
			return route
		}
	}
}

// randomSetting returns a setting of n bolts with a few shapes.
func randomSetting(r *rand.Rand, n, size, shapes int) []Bolt {
	for {
		var l []Bolt
		for range n {
			l = append(l, Bolt{randomPlace(r, size), "s" + strconv.Itoa(r.Intn(shapes))})
		}
		if CheckSetting(l) == api.OK {
			return l
		}
	}
}

// possible reports whether both hands can be there, written as the chapter has it.
func possible(r Route, reach int, s State) bool {
	a, b := r.Holds[s.Left].At, r.Holds[s.Right].At
	return (a.X-b.X)*(a.X-b.X)+(a.Y-b.Y)*(a.Y-b.Y)+(a.Z-b.Z)*(a.Z-b.Z) <= reach*reach
}

// legalMoves returns the legal moves in a possible state, and the states after them.
func legalMoves(r Route, reach int, s State) ([]Move, []State) {
	var moves []Move
	var states []State
	for i := range r.Holds {
		if t := (State{i, s.Right}); i != s.Left && possible(r, reach, t) {
			moves, states = append(moves, left(i)), append(states, t)
		}
	}
	for i := range r.Holds {
		if t := (State{s.Left, i}); i != s.Right && possible(r, reach, t) {
			moves, states = append(moves, right(i)), append(states, t)
		}
	}
	return moves, states
}

// slowPotentials lowers numbers until they do not change any more.
func slowPotentials(r Route, reach int) [][]int {
	n := len(r.Holds)
	p := make([][]int, n)
	for i := range p {
		p[i] = make([]int, n)
		for j := range p[i] {
			p[i][j] = -1
		}
	}
	p[n-1][n-1] = 0
	for changed := true; changed; {
		changed = false
		for i := range n {
			for j := range n {
				if !possible(r, reach, State{i, j}) {
					continue
				}
				_, states := legalMoves(r, reach, State{i, j})
				for _, t := range states {
					q := p[t.Left][t.Right]
					if q >= 0 && (p[i][j] < 0 || p[i][j] > q+1) {
						p[i][j] = q + 1
						changed = true
					}
				}
			}
		}
	}
	return p
}
