package route

import (
	"math"
	"math/rand"
	"slices"
	"testing"

	"crux/api"
)

// wrongMoves are lists of moves at the chapter's route with the errors of a list, each one with some of the errors behind it, too.
func wrongMoves() []struct {
	name string
	l    []Move
	e    api.Errno
} {
	return []struct {
		name string
		l    []Move
		e    api.Errno
	}{
		{"1001 moves", make([]Move, 1001), api.ErrMany},
		{"1001 moves of no hand", slices.Repeat([]Move{{2, 9}}, 1001), api.ErrMany},
		{"the hand 2", []Move{left(1), {2, 9}}, api.ErrKind},
		{"the hand -1", []Move{{-1, 1}}, api.ErrKind},
		{"the last hand of all", []Move{{math.MaxInt, 1}}, api.ErrKind},
		{"the hold 4", []Move{left(1), right(4), {2, 0}}, api.ErrUnknown},
		{"the hold -1", []Move{left(-1)}, api.ErrUnknown},
		{"the last hold of all", []Move{right(math.MaxInt)}, api.ErrUnknown},
		{"the first hold of all", []Move{right(math.MinInt)}, api.ErrUnknown},
		{"a hold behind a move that is not legal", []Move{left(3), left(4)}, api.ErrUnknown},
		{"a hand behind a move that is not legal", []Move{left(0), {2, 0}}, api.ErrKind},
	}
}

// P3.1, P3.2, P3.4: the errors of lists of moves, with a reach and a start ahead of them.
func TestWrongMoves(t *testing.T) {
	apart := example().with(func(r *Route) { r.Right = 3 })
	for _, row := range wrongMoves() {
		for _, at := range []struct {
			r     Route
			reach int
			e     api.Errno
		}{
			{example(), 600, row.e},
			{example(), 0, api.ErrRange},
			{apart, 400001, api.ErrRange},
			{apart, 600, api.ErrState},
		} {
			climb, e := Attempt(at.r, at.reach, row.l)
			want(t, "Attempt: "+row.name, []any{climb, e}, []any{Climb{}, at.e})
			want(t, "CheckWay: "+row.name, CheckWay(at.r, at.reach, row.l), at.e)
		}
	}
}

// P3.1, P3.2, P3.3, P3.4: the errors of reaches, and of starts that are not possible for them.
func TestReaches(t *testing.T) {
	apart := example().with(func(r *Route) { r.Left = 2 }) // 900
	for _, row := range []struct {
		r     Route
		reach int
		e     api.Errno
	}{
		{example(), 1, api.OK},
		{example(), 400000, api.OK},
		{example(), 0, api.ErrRange},
		{example(), -600, api.ErrRange},
		{example(), 400001, api.ErrRange},
		{example(), math.MaxInt, api.ErrRange},
		{example(), math.MinInt, api.ErrRange},
		{apart, 900, api.OK},
		{apart, 899, api.ErrState},
		{apart, 0, api.ErrRange},
		{apart, math.MinInt, api.ErrRange},
		{apart, math.MaxInt, api.ErrRange},
	} {
		n := len(row.r.Holds)
		_, e := Held(row.r, row.reach)
		want(t, "Held", e, row.e)
		_, e = Potentials(row.r, row.reach)
		want(t, "Potentials", e, row.e)
		_, e = Attempt(row.r, row.reach, nil)
		want(t, "Attempt", e, row.e)
		_, e = Moves(row.r, row.reach, State{n - 1, n - 1})
		if row.e == api.ErrState {
			want(t, "Moves", e, api.OK)
		} else {
			want(t, "Moves", e, row.e)
		}
		if row.e == api.OK {
			continue
		}
		l, e := Way(row.r, row.reach)
		want(t, "Way", len(l), 0)
		want(t, "Way", e, row.e)
		want(t, "CheckWay", CheckWay(row.r, row.reach, nil), row.e)
		x, e := CheckPotentials(row.r, row.reach, nil)
		want(t, "CheckPotentials", []any{x, e}, []any{0, row.e})
	}
}

// P3.1: Moves.
func TestMoves(t *testing.T) {
	pair := Route{"R", []Hold{{"a", place(0, 0, 0), 0, false}, {"b", place(300, 400, 1200), 0, false}}, 0, 1}
	for _, row := range []struct {
		name  string
		r     Route
		reach int
		s     State
		moves []Move
		e     api.Errno
	}{
		{"the start of the example", example(), 600, State{0, 0}, []Move{left(1), right(1)}, api.OK},
		{"both at b", example(), 600, State{1, 1}, []Move{left(0), left(2), right(0), right(2)}, api.OK},
		{"at a and b", example(), 600, State{0, 1}, []Move{left(1), left(2), right(0)}, api.OK},
		{"at b and a", example(), 600, State{1, 0}, []Move{left(0), right(1), right(2)}, api.OK},
		{"a greater reach", example(), 900, State{1, 0}, []Move{left(0), left(2), right(1), right(2), right(3)}, api.OK},
		{"the least reach", example(), 1, State{2, 2}, nil, api.OK},
		{"a distance that is just within the reach", pair, 1300, State{0, 0}, []Move{left(1), right(1)}, api.OK},
		{"a distance that is just above the reach", pair, 1299, State{1, 1}, nil, api.OK},
		{"one hold", line(0), 9, State{0, 0}, nil, api.OK},
		{"a start that is not possible", pair, 1299, State{0, 0}, nil, api.OK},
		{"a state that is not possible", pair, 1299, State{0, 1}, nil, api.ErrReach},
		{"another one", example(), 580, State{2, 1}, nil, api.ErrReach},
		{"no left hold", example(), 1, State{4, 0}, nil, api.ErrUnknown},
		{"no right hold", example(), 1, State{0, 4}, nil, api.ErrUnknown},
		{"holds below 0", example(), 1, State{-1, -1}, nil, api.ErrUnknown},
		{"the last hold of all", example(), 1, State{0, math.MaxInt}, nil, api.ErrUnknown},
		{"the first hold of all", example(), 1, State{math.MinInt, 0}, nil, api.ErrUnknown},
		{"a reach ahead of a state", example(), 0, State{4, 4}, nil, api.ErrRange},
	} {
		l, e := Moves(row.r, row.reach, row.s)
		want(t, row.name, e, row.e)
		want(t, row.name, l, row.moves)
	}
	corners := Route{"R", []Hold{{"a", place(100000, 100000, 100000), 0, false}, {"b", place(-100000, -100000, -100000), 0, false}}, 0, 0}
	for reach, n := range map[int]int{346410: 0, 346411: 2, 400000: 2} {
		l, _ := Moves(corners, reach, State{0, 0})
		want(t, "the greatest distance", len(l), n)
	}
	l, _ := Moves(ladder(64), 400000, State{5, 6})
	want(t, "all moves", len(l), 126)
}

// P3.1: Moves at random routes.
func TestMovesAtRandom(t *testing.T) {
	r := rand.New(rand.NewSource(1))
	for range 300 {
		route := randomRoute(r, 1+r.Intn(8), 10)
		reach := 1 + r.Intn(30)
		for i := range route.Holds {
			for j := range route.Holds {
				s := State{i, j}
				l, e := Moves(route, reach, s)
				if !possible(route, reach, s) {
					want(t, "Moves", []any{len(l), e}, []any{0, api.ErrReach})
					continue
				}
				moves, _ := legalMoves(route, reach, s)
				want(t, "Moves", e, api.OK)
				want(t, "Moves", l, moves)
			}
		}
	}
}

// P3.4: Attempt.
func TestAttempt(t *testing.T) {
	zones := example().with(func(r *Route) { r.Holds[0].Zone, r.Holds[1].Zone = true, true })
	low := example().with(func(r *Route) { r.Left = 2; r.Holds[3].Value = 999 })
	way := []Move{left(1), right(2), left(3), right(3)}
	for _, row := range []struct {
		name  string
		r     Route
		reach int
		l     []Move
		climb Climb
	}{
		{"of the chapter", example(), 600, []Move{left(1), right(2)}, Climb{2, State{1, 2}, 2, 1, false}},
		{"with a shorter reach", example(), 580, []Move{left(1), right(2)}, Climb{1, State{1, 0}, 1, 0, false}},
		{"nothing", example(), 600, nil, Climb{0, State{0, 0}, 0, 0, false}},
		{"to the top", example(), 600, way, Climb{4, State{3, 3}, 3, 1, true}},
		{"to the top with one hand", example(), 600, way[:3], Climb{3, State{3, 2}, 3, 1, false}},
		{"to the top and down again", example(), 600, append(slices.Clone(way), left(2), right(2), left(1)), Climb{7, State{1, 2}, 3, 1, true}},
		{"to a hold where the hand is", example(), 600, []Move{left(1), left(1), right(2)}, Climb{1, State{1, 0}, 1, 0, false}},
		{"to a hold where the other hand is", example(), 600, []Move{left(1), right(1), left(0)}, Climb{3, State{0, 1}, 1, 0, false}},
		{"no legal move", example(), 600, []Move{left(3), left(1), right(1)}, Climb{0, State{0, 0}, 0, 0, false}},
		{"with moves behind one that is not legal", example(), 600, []Move{left(1), right(3), right(2)}, Climb{1, State{1, 0}, 1, 0, false}},
		{"up and down", example(), 600, []Move{left(1), left(0), right(1), right(0)}, Climb{4, State{0, 0}, 1, 0, false}},
		{"with zones, one of them at the start", zones, 600, []Move{left(1), right(2), right(0)}, Climb{3, State{1, 0}, 2, 3, false}},
		{"a zone at the start", zones, 600, nil, Climb{0, State{0, 0}, 0, 1, false}},
		{"from a value at the start", low, 900, []Move{left(1), right(1)}, Climb{2, State{1, 1}, 2, 1, false}},
		{"one hold, the top", line(5), 1, nil, Climb{0, State{0, 0}, 0, 0, true}},
		{"from the top down", example().with(func(r *Route) { r.Left, r.Right = 3, 3 }), 580, []Move{left(2), right(1)}, Climb{1, State{2, 3}, 3, 1, true}},
	} {
		climb, e := Attempt(row.r, row.reach, row.l)
		want(t, row.name, []any{climb, e}, []any{row.climb, api.OK})
	}
	var l []Move
	for range 250 {
		l = append(l, left(1), right(1), left(0), right(0))
	}
	climb, e := Attempt(ladder(2), 10, l)
	want(t, "1000 moves", []any{climb, e}, []any{Climb{1000, State{0, 0}, 1, 0, true}, api.OK})
}

// P3.4: Attempt at random routes.
func TestAttemptAtRandom(t *testing.T) {
	r := rand.New(rand.NewSource(2))
	for range 1000 {
		n := 1 + r.Intn(5)
		route := randomRoute(r, n, 8)
		reach := 5 + r.Intn(30)
		s := State{route.Left, route.Right}
		if !possible(route, reach, s) {
			continue
		}
		var l []Move
		for range r.Intn(30) {
			l = append(l, Move{r.Intn(2), r.Intn(n)})
		}
		climb := Climb{State: s}
		held := []int{s.Left, s.Right}
		for _, m := range l {
			climb.Top = climb.Top || climb.State == State{n - 1, n - 1}
			moves, states := legalMoves(route, reach, climb.State)
			at := slices.Index(moves, m)
			if at < 0 {
				break
			}
			climb.State = states[at]
			climb.Moves++
			held = append(held, m.To)
		}
		climb.Top = climb.Top || climb.State == State{n - 1, n - 1}
		for i, h := range route.Holds {
			if slices.Contains(held, i) {
				climb.Value = max(climb.Value, h.Value)
				if h.Zone {
					climb.Zones++
				}
			}
		}
		got, e := Attempt(route, reach, l)
		want(t, "Attempt", []any{got, e}, []any{climb, api.OK})
	}
}
