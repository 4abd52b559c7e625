package route

import (
	"math"
	"math/rand"
	"slices"
	"testing"

	"crux/api"
)

// P3.1: Held.
func TestHeld(t *testing.T) {
	for _, row := range []struct {
		name  string
		r     Route
		reach int
		held  []int
	}{
		{"of the chapter", example(), 500, []int{0, 1}},
		{"all", example(), 600, []int{0, 1, 2, 3}},
		{"just all", example(), 584, []int{0, 1, 2, 3}},
		{"just not all", example(), 583, []int{0, 1}},
		{"the start alone", example(), 1, []int{0}},
		{"both hands at the start", example().with(func(r *Route) { r.Left, r.Right = 3, 2 }), 500, []int{2, 3}},
		{"a start above", example().with(func(r *Route) { r.Left, r.Right = 2, 2 }), 499, []int{2}},
		{"one hold", line(7), 1, []int{0}},
		{"holds on both sides", line(0, 10, 15, 30, 20, 41).with(func(r *Route) { r.Left, r.Right = 4, 4 }), 10, []int{0, 1, 2, 3, 4}},
	} {
		held, e := Held(row.r, row.reach)
		want(t, row.name, []any{held, e}, []any{row.held, api.OK})
	}
}

// P3.1: Held at random routes: the holds of the states that are reached.
func TestHeldAtRandom(t *testing.T) {
	r := rand.New(rand.NewSource(3))
	for range 300 {
		route := randomRoute(r, 1+r.Intn(7), 10)
		reach := 1 + r.Intn(25)
		start := State{route.Left, route.Right}
		if !possible(route, reach, start) {
			continue
		}
		states := []State{start}
		for i := 0; i < len(states); i++ {
			_, after := legalMoves(route, reach, states[i])
			for _, s := range after {
				if !slices.Contains(states, s) {
					states = append(states, s)
				}
			}
		}
		var holds []int
		for _, s := range states {
			holds = append(holds, s.Left, s.Right)
		}
		slices.Sort(holds)
		held, e := Held(route, reach)
		want(t, "Held", []any{held, e}, []any{slices.Compact(holds), api.OK})
	}
}

// P3.2: Way.
func TestWay(t *testing.T) {
	top := example().with(func(r *Route) { r.Left, r.Right = 3, 3 })
	for _, row := range []struct {
		name  string
		r     Route
		reach int
		way   []Move
		e     api.Errno
	}{
		{"of the chapter", example(), 600, []Move{left(1), right(2), left(3), right(3)}, api.OK},
		{"with a greater reach", example(), 900, []Move{left(1), right(3), left(3)}, api.OK},
		{"with the greatest reach", example(), 400000, []Move{left(3), right(3)}, api.OK},
		{"none", example(), 500, nil, api.ErrReach},
		{"just none", example(), 583, nil, api.ErrReach},
		{"just one", example(), 584, []Move{left(1), right(2), left(3), right(3)}, api.OK},
		{"from the top", top, 1, nil, api.OK},
		{"one hold", line(5), 1, nil, api.OK},
		{"one hand at the top", example().with(func(r *Route) { r.Left, r.Right = 3, 2 }), 500, []Move{right(3)}, api.OK},
		{"the other hand at the top", example().with(func(r *Route) { r.Left, r.Right = 2, 3 }), 500, []Move{left(3)}, api.OK},
		{"the right hand first, as the left one cannot", example().with(func(r *Route) { r.Left = 1 }), 600, []Move{right(2), left(3), right(3)}, api.OK},
		{"by holds that do not ascend", line(0, 20, 10, 30), 10, []Move{left(2), right(1), left(3), right(3)}, api.OK},
		{"back to the last hold", line(30, 0, 15).with(func(r *Route) { r.Left, r.Right = 1, 1 }), 15, []Move{left(2), right(2)}, api.OK},
	} {
		way, e := Way(row.r, row.reach)
		want(t, row.name, e, row.e)
		want(t, row.name, way, row.way)
	}
	way, e := Way(ladder(64), 10)
	want(t, "a long way", []any{len(way), e}, []any{64, api.OK})
	want(t, "a long way", way[:3], []Move{left(1), right(2), left(3)})
}

// firstWay returns the lexicographically first way with n moves, written as the chapter has it, or nil.
func firstWay(r Route, reach int, s State, n int) ([]Move, bool) {
	if n == 0 {
		top := len(r.Holds) - 1
		return nil, s == State{top, top}
	}
	moves, states := legalMoves(r, reach, s)
	for i, m := range moves {
		if rest, ok := firstWay(r, reach, states[i], n-1); ok {
			return append([]Move{m}, rest...), true
		}
	}
	return nil, false
}

// P3.2: Way at random routes, compared with all ways that are no longer.
func TestWayAtRandom(t *testing.T) {
	r := rand.New(rand.NewSource(4))
	found := map[int]int{}
	for range 600 {
		route := randomRoute(r, 1+r.Intn(6), 10)
		reach := 1 + r.Intn(25)
		start := State{route.Left, route.Right}
		if !possible(route, reach, start) {
			continue
		}
		way, e := Way(route, reach)
		least := slowPotentials(route, reach)[start.Left][start.Right]
		if least < 0 {
			want(t, "no way", []any{len(way), e}, []any{0, api.ErrReach})
			continue
		}
		found[least]++
		want(t, "Way", e, api.OK)
		for n := range least {
			_, ok := firstWay(route, reach, start, n)
			want(t, "a shorter way", ok, false)
		}
		first, _ := firstWay(route, reach, start, least)
		want(t, "Way", way, first)
	}
	want(t, "ways of different lengths", len(found) > 4, true)
}

// P3.2: CheckWay.
func TestCheckWay(t *testing.T) {
	way := []Move{left(1), right(2), left(3), right(3)}
	then := func(l ...Move) []Move { return append(slices.Clone(way), l...) }
	for _, row := range []struct {
		name  string
		r     Route
		reach int
		l     []Move
		e     api.Errno
	}{
		{"a least way", example(), 600, way, api.OK},
		{"another one", example(), 600, []Move{right(1), left(2), right(3), left(3)}, api.OK},
		{"a longer one", example(), 600, []Move{left(1), left(0), left(1), right(1), right(2), left(2), left(3), right(3)}, api.OK},
		{"one that comes to the goal before its end", example(), 600, then(left(2), left(3)), api.OK},
		{"one that leaves the goal", example(), 600, then(left(2)), api.ErrOpen},
		{"a move at the goal that is none", example(), 600, then(left(3)), api.ErrRule},
		{"nothing", example(), 600, nil, api.ErrOpen},
		{"one hand at the top", example(), 600, way[:3], api.ErrOpen},
		{"a reach that is too short", example(), 580, way, api.ErrRule},
		{"a move that is too long", example(), 600, []Move{left(3)}, api.ErrRule},
		{"a move to the same hold, and not the goal", example(), 600, []Move{left(0)}, api.ErrRule},
		{"a move that is not legal behind the goal", example(), 600, then(left(0)), api.ErrRule},
		{"nothing, at the top", line(5), 1, nil, api.OK},
		{"nothing, with both hands at the last hold", example().with(func(r *Route) { r.Left, r.Right = 3, 3 }), 1, nil, api.OK},
		{"with no way at all", example(), 500, []Move{left(1)}, api.ErrOpen},
	} {
		want(t, row.name, CheckWay(row.r, row.reach, row.l), row.e)
	}
	var l []Move
	for range 249 {
		l = append(l, left(1), right(1), left(0), right(0))
	}
	l = append(l, left(1), left(0), left(1), right(1))
	want(t, "1000 moves", CheckWay(ladder(2), 10, l), api.OK)
}

// P3.3: Potentials.
func TestPotentials(t *testing.T) {
	for _, row := range []struct {
		name  string
		r     Route
		reach int
		p     [][]int
	}{
		{"of the chapter", example(), 600, [][]int{{4, 3, -1, -1}, {3, 3, 2, -1}, {-1, 2, 2, 1}, {-1, -1, 1, 0}}},
		{"with a greater reach", example(), 900, [][]int{{3, 2, 2, -1}, {2, 2, 2, 1}, {2, 2, 2, 1}, {-1, 1, 1, 0}}},
		{"with a shorter reach", example(), 500, [][]int{{-1, -1, -1, -1}, {-1, -1, -1, -1}, {-1, -1, 2, 1}, {-1, -1, 1, 0}}},
		{"one hold", line(3), 1, [][]int{{0}}},
		{"a hold that leads nowhere", line(0, 100, 10), 10, [][]int{{2, -1, 1}, {-1, -1, -1}, {1, -1, 0}}},
	} {
		p, e := Potentials(row.r, row.reach)
		want(t, row.name, []any{p, e}, []any{row.p, api.OK})
	}
	p, _ := Potentials(ladder(64), 10)
	want(t, "a long route", []any{len(p), p[0][0], p[0][1], p[63][63]}, []any{64, 64, 63, 0})
}

// P3.3: Potentials at random routes.
func TestPotentialsAtRandom(t *testing.T) {
	r := rand.New(rand.NewSource(5))
	for range 300 {
		route := randomRoute(r, 1+r.Intn(9), 10)
		reach := 1 + r.Intn(25)
		if !possible(route, reach, State{route.Left, route.Right}) {
			continue
		}
		p, e := Potentials(route, reach)
		want(t, "Potentials", []any{p, e}, []any{slowPotentials(route, reach), api.OK})
	}
}

// matrix returns potentials of n holds that are all the same, but for the goal.
func matrix(n, x int) [][]int {
	var p [][]int
	for range n {
		p = append(p, slices.Repeat([]int{x}, n))
	}
	p[n-1][n-1] = 0
	return p
}

// P3.3: CheckPotentials.
func TestCheckPotentials(t *testing.T) {
	with := func(reach, i, j, x int) [][]int {
		p, _ := Potentials(example(), reach)
		p[i][j] = x
		return p
	}
	right, _ := Potentials(example(), 600)
	for _, row := range []struct {
		name  string
		reach int
		p     [][]int
		n     int
		e     api.Errno
	}{
		{"of the chapter", 600, right, 4, api.OK},
		{"those of a greater reach", 600, with(900, 0, 0, 3), 3, api.OK},
		{"those of a shorter reach", 600, with(500, 0, 0, -1), 0, api.ErrProof},
		{"without a way", 500, with(500, 0, 0, -1), -1, api.OK},
		{"without a way, and more", 500, matrix(4, 0), 0, api.OK},
		{"with nothing but 0", 600, matrix(4, 0), 0, api.OK},
		{"with nothing but 1", 600, matrix(4, 1), 1, api.OK},
		{"with nothing but 2", 600, matrix(4, 2), 0, api.ErrProof},
		{"less at the start", 600, with(600, 0, 0, 3), 3, api.OK},
		{"more at the start", 600, with(600, 0, 0, 5), 0, api.ErrProof},
		{"-1 at the start", 600, with(600, 0, 0, -1), 0, api.ErrProof},
		{"-1 near the goal", 600, with(600, 2, 3, -1), 0, api.ErrProof},
		{"too much near the goal", 600, with(600, 3, 2, 2), 0, api.ErrProof},
		{"the goal is 1", 600, with(600, 3, 3, 1), 0, api.ErrProof},
		{"the goal is -1", 600, with(600, 3, 3, -1), 0, api.ErrProof},
		{"the goal is -1, like all", 500, [][]int{{-1, -1, -1, -1}, {-1, -1, -1, -1}, {-1, -1, -1, -1}, {-1, -1, -1, -1}}, 0, api.ErrProof},
		{"any number of a state that is not possible", 600, with(600, 0, 3, 4096), 4, api.OK},
		{"0 for a state that is not possible", 600, with(600, 0, 3, 0), 4, api.OK},
		{"any number beside -1", 500, with(500, 0, 1, 4096), 0, api.ErrProof},
		{"any number of both states of the start", 500, [][]int{{4095, 4096, -1, -1}, {4096, 4096, -1, -1}, {-1, -1, 2, 1}, {-1, -1, 1, 0}}, 4095, api.OK},
		{"4097", 600, with(600, 0, 3, 4097), 0, api.ErrRange},
		{"-2", 600, with(600, 3, 0, -2), 0, api.ErrRange},
		{"-2 at the goal", 600, with(600, 3, 3, -2), 0, api.ErrRange},
		{"the last number of all", 600, with(600, 0, 0, math.MaxInt), 0, api.ErrRange},
		{"the first number of all", 600, with(600, 0, 0, math.MinInt), 0, api.ErrRange},
		{"nothing", 600, nil, 0, api.ErrShape},
		{"3 rows", 600, matrix(4, 0)[1:], 0, api.ErrShape},
		{"5 rows", 600, append(matrix(4, 0), []int{0, 0, 0, 0}), 0, api.ErrShape},
		{"a row without a number", 600, append(matrix(4, 0)[:3], nil), 0, api.ErrShape},
		{"a short row", 600, append(matrix(4, 0)[1:], []int{0, 0, 0}), 0, api.ErrShape},
		{"a long row", 600, append([][]int{{0, 0, 0, 0, 0}}, matrix(4, 0)[1:]...), 0, api.ErrShape},
		{"a number ahead of a short row", 600, append([][]int{{-2, 0, 0, 0}}, matrix(3, 0)...), 0, api.ErrShape},
		{"a number that is none, and no proof", 600, append([][]int{{9, 9, 9, 4097}}, matrix(4, 0)[1:]...), 0, api.ErrRange},
	} {
		n, e := CheckPotentials(example(), row.reach, row.p)
		want(t, row.name, []any{n, e}, []any{row.n, row.e})
	}
	between := example().with(func(r *Route) { r.Left, r.Right = 2, 1 })
	n, e := CheckPotentials(between, 600, [][]int{{3, 3, 0, 0}, {2, 2, 1, 0}, {0, 2, 2, 1}, {0, 0, 1, 0}})
	want(t, "the left hold is the row", []any{n, e}, []any{2, api.OK})
	n, e = CheckPotentials(line(4), 1, [][]int{{0}})
	want(t, "one hold", []any{n, e}, []any{0, api.OK})
}

// proves reports whether potentials prove their number at the start, written as the chapter has it.
func proves(r Route, reach int, p [][]int) bool {
	n := len(r.Holds)
	ok := p[n-1][n-1] == 0
	for i := range n {
		for j := range n {
			if !possible(r, reach, State{i, j}) {
				continue
			}
			_, states := legalMoves(r, reach, State{i, j})
			for _, t := range states {
				if q := p[t.Left][t.Right]; q != -1 {
					ok = ok && p[i][j] >= 0 && p[i][j] <= q+1
				}
			}
		}
	}
	return ok
}

// P3.3, P3.8: CheckPotentials of potentials that are nearly right; no potentials prove more than the least way.
func TestCheckPotentialsAtRandom(t *testing.T) {
	r := rand.New(rand.NewSource(6))
	proofs := 0
	for range 1500 {
		n := 1 + r.Intn(5)
		route := randomRoute(r, n, 10)
		reach := 1 + r.Intn(25)
		if !possible(route, reach, State{route.Left, route.Right}) {
			continue
		}
		least := slowPotentials(route, reach)
		p := slowPotentials(route, reach)
		for range r.Intn(4) {
			p[r.Intn(n)][r.Intn(n)] += r.Intn(3) - 1
		}
		for _, row := range p {
			for i := range row {
				row[i] = max(row[i], -1)
			}
		}
		x, e := CheckPotentials(route, reach, p)
		if !proves(route, reach, p) {
			want(t, "no proof", []any{x, e}, []any{0, api.ErrProof})
			continue
		}
		proofs++
		want(t, "a proof", []any{x, e}, []any{p[route.Left][route.Right], api.OK})
		if way := least[route.Left][route.Right]; way >= 0 {
			want(t, "no more than the least way", x >= 0 && x <= way, true)
		}
	}
	want(t, "some proofs", proofs > 100, true)
}
