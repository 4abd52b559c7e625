package route

import (
	"maps"
	"slices"

	"crux/api"
	"crux/check"
)

// unreachable stands in potentials for states from which the goal cannot be reached.
const unreachable = -1

// maxPotential is the greatest number in potentials: that of all states of MaxHolds holds.
const maxPotential = api.MaxHolds * api.MaxHolds

// Held returns the holds that a hand can have.
func Held(r Route, reach int) ([]int, api.Errno) {
	c, e := startedClimbing(r, reach)
	if e != api.OK {
		return nil, e
	}
	holds := holdsOf(maps.Keys(c.distances(c.start())))
	return slices.Sorted(maps.Keys(holds)), api.OK
}

// Way returns the first one of the least ways.
func Way(r Route, reach int) ([]Move, api.Errno) {
	c, e := startedClimbing(r, reach)
	if e != api.OK {
		return nil, e
	}
	left := c.distances(c.goal())
	if _, reached := left[c.start()]; !reached {
		return nil, api.ErrReach
	}
	return c.firstWay(left), api.OK
}

// CheckWay returns OK for a way.
func CheckWay(r Route, reach int, l []Move) api.Errno {
	c, e := startedClimbing(r, reach)
	if e = check.First(e, c.checkMoves(l)); e != api.OK {
		return e
	}
	states := c.follow(l)
	return check.First(
		check.If(len(states) <= len(l), api.ErrRule),
		check.If(states[len(states)-1] != c.goal(), api.ErrOpen),
	)
}

// Potentials returns the least numbers of moves to the goal.
func Potentials(r Route, reach int) ([][]int, api.Errno) {
	c, e := startedClimbing(r, reach)
	if e != api.OK {
		return nil, e
	}
	p := make([][]int, len(r.Holds))
	for i := range p {
		p[i] = slices.Repeat([]int{unreachable}, len(r.Holds))
	}
	for s, n := range c.distances(c.goal()) {
		p[s.Left][s.Right] = n
	}
	return p, api.OK
}

// CheckPotentials returns what potentials prove.
func CheckPotentials(r Route, reach int, p [][]int) (int, api.Errno) {
	c, e := startedClimbing(r, reach)
	if e = check.First(e, checkNumbers(p, len(r.Holds))); e != api.OK {
		return 0, e
	}
	if !c.isProof(p) {
		return 0, api.ErrProof
	}
	return p[r.Left][r.Right], api.OK
}

// distances returns the least numbers of moves from a state to all states that are reached from it. Moves can be undone, so they are the numbers of moves to this state, too.
func (c climbing) distances(from State) map[State]int {
	known := map[State]int{from: 0}
	queue := []State{from}
	for len(queue) > 0 {
		s := queue[0]
		queue = queue[1:]
		for m := range c.moves(s) {
			t := s.after(m)
			if _, reached := known[t]; !reached {
				known[t] = known[s] + 1
				queue = append(queue, t)
			}
		}
	}
	return known
}

// firstWay returns the lexicographically first one of the least ways, for the numbers of moves that are left in the states. Every least way begins with a move after which fewer are left, and every such move begins one.
func (c climbing) firstWay(left map[State]int) []Move {
	var way []Move
	s := c.start()
search:
	for s != c.goal() {
		for m := range c.moves(s) {
			if t := s.after(m); left[t] < left[s] {
				way, s = append(way, m), t
				continue search
			}
		}
	}
	return way
}

// checkNumbers returns the error of a matrix of potentials for n holds.
func checkNumbers(p [][]int, n int) api.Errno {
	if len(p) != n || slices.ContainsFunc(p, func(row []int) bool { return len(row) != n }) {
		return api.ErrShape
	}
	return check.Each(slices.Concat(p...), func(_, x int) api.Errno {
		return check.Range(x, unreachable, maxPotential)
	})
}

// isProof reports whether potentials prove the number at the start.
func (c climbing) isProof(p [][]int) bool {
	goal := c.goal()
	if p[goal.Left][goal.Right] != 0 {
		return false
	}
	for left, row := range p {
		for right := range row {
			s := State{Left: left, Right: right}
			if c.isPossible(s) && !c.falls(p, s) {
				return false
			}
		}
	}
	return true
}

// falls reports whether no legal move in a possible state makes its number less by more than 1, or leads from -1 to another number.
func (c climbing) falls(p [][]int, s State) bool {
	here := p[s.Left][s.Right]
	for m := range c.moves(s) {
		t := s.after(m)
		there := p[t.Left][t.Right]
		if there != unreachable && (here < 0 || here > there+1) {
			return false
		}
	}
	return true
}
