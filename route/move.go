package route

import (
	"iter"
	"slices"

	"crux/api"
	"crux/check"
)

// The hands.
const (
	leftHand = iota
	rightHand
	hands // their number
)

// climbing is a route without errors, and how far apart the hands can be.
type climbing struct {
	route  Route
	square func(a, b int) int // of the distance of two holds
	reach  int
}

// Moves returns the legal moves.
func Moves(r Route, reach int, s State) ([]Move, api.Errno) {
	c, e := climbingOf(r, reach)
	if e = check.First(e, c.checkState(s)); e != api.OK {
		return nil, e
	}
	return slices.Collect(c.moves(s)), api.OK
}

// Attempt returns what was climbed.
func Attempt(r Route, reach int, l []Move) (Climb, api.Errno) {
	c, e := startedClimbing(r, reach)
	if e = check.First(e, c.checkMoves(l)); e != api.OK {
		return Climb{}, e
	}
	states := c.follow(l)
	climb := Climb{
		Moves: len(states) - 1,
		State: states[len(states)-1],
		Top:   slices.Contains(states, c.goal()),
	}
	for n := range holdsOf(slices.Values(states)) {
		h := r.Holds[n]
		climb.Value = max(climb.Value, h.Value)
		if h.Zone {
			climb.Zones++
		}
	}
	return climb, api.OK
}

// climbingOf returns a route with a reach, or the first error of both, but not that of the start.
func climbingOf(r Route, reach int) (climbing, api.Errno) {
	if e := check.First(CheckRoute(r), check.Range(reach, 1, MaxReach)); e != api.OK {
		return climbing{}, e
	}
	return climbing{route: r, square: r.square, reach: reach}, api.OK
}

// startedClimbing returns a route with a reach for which its start is possible, or the first error of both.
func startedClimbing(r Route, reach int) (climbing, api.Errno) {
	c, e := climbingOf(r, reach)
	if e == api.OK && !c.isPossible(c.start()) {
		return climbing{}, api.ErrState
	}
	return c, e
}

func (c climbing) checkState(s State) api.Errno {
	switch {
	case !c.route.has(s.Left, s.Right):
		return api.ErrUnknown
	case !c.isPossible(s):
		return api.ErrReach
	}
	return api.OK
}

func (c climbing) checkMoves(l []Move) api.Errno {
	if len(l) > api.MaxEvents {
		return api.ErrMany
	}
	return check.Each(l, func(_ int, m Move) api.Errno {
		return check.First(
			check.If(m.Hand < 0 || m.Hand >= hands, api.ErrKind),
			check.If(!c.route.has(m.To), api.ErrUnknown),
		)
	})
}

func (c climbing) start() State {
	return State{Left: c.route.Left, Right: c.route.Right}
}

func (c climbing) goal() State {
	top := len(c.route.Holds) - 1
	return State{Left: top, Right: top}
}

func (c climbing) isPossible(s State) bool {
	return c.square(s.Left, s.Right) <= c.reach*c.reach
}

// after returns the state after a move.
func (s State) after(m Move) State {
	if m.Hand == leftHand {
		s.Left = m.To
	} else {
		s.Right = m.To
	}
	return s
}

// isLegal reports whether a move is legal in a possible state.
func (c climbing) isLegal(s State, m Move) bool {
	t := s.after(m)
	return t != s && c.isPossible(t)
}

// moves goes through the legal moves in a possible state, in their order.
func (c climbing) moves(s State) iter.Seq[Move] {
	return func(yield func(Move) bool) {
		for hand := range hands {
			for to := range c.route.Holds {
				m := Move{Hand: hand, To: to}
				if c.isLegal(s, m) && !yield(m) {
					return
				}
			}
		}
	}
}

// follow returns the start, and the states after the moves up to the first one that is not legal.
func (c climbing) follow(l []Move) []State {
	s := c.start()
	states := []State{s}
	for _, m := range l {
		if !c.isLegal(s, m) {
			break
		}
		s = s.after(m)
		states = append(states, s)
	}
	return states
}

// holdsOf returns the holds of the hands in states.
func holdsOf(states iter.Seq[State]) map[int]bool {
	holds := map[int]bool{}
	for s := range states {
		holds[s.Left], holds[s.Right] = true, true
	}
	return holds
}
