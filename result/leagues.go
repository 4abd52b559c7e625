package result

import (
	"cmp"
	"math/bits"
	"slices"

	"crux/api"
	"crux/check"
	"crux/number"
)

// set is climbers of a league, as bits.
type set uint32

// nobody stands for the winner of a duel that has none yet.
const nobody = -1

// search is the search for winners with which nobody has too many points.
type search struct {
	duels   []Duel
	winners []int
	room    []int // the points that each climber may still get
}

// CheckLeague returns the first error of a league, or OK.
func CheckLeague(l League) api.Errno {
	switch {
	case len(l.Climbers) == 0:
		return api.ErrEmpty
	case len(l.Climbers) > MaxLeague:
		return api.ErrMany
	}
	e := check.Each(l.Climbers, func(i int, name string) api.Errno {
		return check.First(
			check.If(!number.IsName(name), api.ErrName),
			check.If(slices.Contains(l.Climbers[:i], name), api.ErrTwice),
		)
	})
	return check.First(e, l.checkPoints(), l.checkDuels())
}

// Title returns winners of all duels with which nobody has more points than a climber.
func Title(l League, climber int) ([]int, api.Errno) {
	if e := checkMember(l, climber); e != api.OK {
		return nil, e
	}
	winners, ok := l.winners(climber)
	if !ok {
		return nil, api.ErrInfeasible
	}
	return winners, api.OK
}

// CheckTitle returns OK for winners of all duels with which nobody has more points than a climber.
func CheckTitle(l League, climber int, winners []int) api.Errno {
	e := check.First(checkMember(l, climber), check.If(len(winners) != len(l.Duels), api.ErrShape))
	if e != api.OK {
		return e
	}
	e = check.Each(winners, func(i, winner int) api.Errno {
		return check.If(!l.Duels[i].has(winner), api.ErrUnknown)
	})
	if e != api.OK {
		return e
	}
	points := slices.Clone(l.Points)
	for _, winner := range winners {
		points[winner]++
	}
	return check.If(slices.Max(points) > points[climber], api.ErrProof)
}

// Eliminated returns the smallest set of climbers that proves that a climber cannot be first.
func Eliminated(l League, climber int) ([]int, api.Errno) {
	e := check.First(checkMember(l, climber), check.If(len(l.Climbers) > api.MaxExact, api.ErrLimit))
	if e != api.OK {
		return nil, e
	}
	var proofs [][]int
	for s := range set(1) << len(l.Climbers) {
		if !s.has(climber) && l.proves(s, climber) {
			proofs = append(proofs, s.numbers())
		}
	}
	if len(proofs) == 0 {
		return nil, api.ErrNone
	}
	return slices.MinFunc(proofs, func(a, b []int) int {
		return cmp.Or(cmp.Compare(len(a), len(b)), slices.Compare(a, b))
	}), api.OK
}

// CheckEliminated returns OK for a set of climbers that proves that a climber cannot be first.
func CheckEliminated(l League, climber int, set []int) api.Errno {
	e := check.First(checkMember(l, climber), check.If(len(set) == 0, api.ErrEmpty))
	if e != api.OK {
		return e
	}
	e = check.Each(set, func(i, n int) api.Errno {
		return check.First(
			checkClimber(n, len(l.Climbers)),
			check.If(i > 0 && n <= set[i-1], api.ErrOrder),
			check.If(n == climber, api.ErrState),
		)
	})
	if e != api.OK {
		return e
	}
	return check.If(!l.proves(setOf(set), climber), api.ErrProof)
}

func (d Duel) has(climber int) bool {
	return climber == d.A || climber == d.B
}

func setOf(numbers []int) set {
	var s set
	for _, n := range numbers {
		s |= 1 << n
	}
	return s
}

func (s set) has(climber int) bool {
	return s>>climber&1 == 1
}

// size returns the number of climbers.
func (s set) size() int {
	return bits.OnesCount32(uint32(s))
}

// numbers returns the climbers in ascending order.
func (s set) numbers() []int {
	var l []int
	for i := range MaxLeague {
		if s.has(i) {
			l = append(l, i)
		}
	}
	return l
}

// most returns the points that a climber has who wins all duels.
func (l League) most(climber int) int {
	most := l.Points[climber]
	for _, d := range l.Duels {
		if d.has(climber) {
			most++
		}
	}
	return most
}

// proves returns whether the climbers of a set get so many points in any case that one of them has more than the most of a climber.
func (l League) proves(s set, climber int) bool {
	sum := 0
	for _, n := range s.numbers() {
		sum += l.Points[n]
	}
	for _, d := range l.Duels {
		if s.has(d.A) && s.has(d.B) {
			sum++
		}
	}
	return sum > s.size()*l.most(climber)
}

// winners returns winners of all duels with which nobody has more points than a climber, or false if there are none. The climber wins all duels, which is never worse.
func (l League) winners(climber int) ([]int, bool) {
	s := search{duels: l.Duels}
	for _, points := range l.Points {
		s.room = append(s.room, l.most(climber)-points)
	}
	if slices.Min(s.room) < 0 {
		return nil, false
	}
	for _, d := range l.Duels {
		winner := nobody
		if d.has(climber) {
			winner = climber
		}
		s.winners = append(s.winners, winner)
	}
	for i, winner := range s.winners {
		if winner == nobody && !s.settle(i, new(set)) {
			return nil, false
		}
	}
	return s.winners, true
}

// settle finds a winner of a duel, and other winners of duels that have one already, if that helps. It tries nobody whom it has tried before.
func (s *search) settle(duel int, tried *set) bool {
	for _, winner := range []int{s.duels[duel].A, s.duels[duel].B} {
		if !tried.has(winner) && s.makeRoom(winner, tried) {
			s.winners[duel] = winner
			return true
		}
	}
	return false
}

// makeRoom takes a point of the room of a climber, or a duel that the climber wins.
func (s *search) makeRoom(climber int, tried *set) bool {
	*tried |= 1 << climber
	if s.room[climber] > 0 {
		s.room[climber]--
		return true
	}
	for i, winner := range s.winners {
		if winner == climber && s.settle(i, tried) {
			return true
		}
	}
	return false
}

func (l League) checkPoints() api.Errno {
	if len(l.Points) != len(l.Climbers) {
		return api.ErrShape
	}
	return check.Each(l.Points, func(_, points int) api.Errno {
		return check.Range(points, 0, api.MaxPoints)
	})
}

func (l League) checkDuels() api.Errno {
	if len(l.Duels) > MaxDuels {
		return api.ErrMany
	}
	return check.Each(l.Duels, func(_ int, d Duel) api.Errno {
		return check.First(
			checkClimber(d.A, len(l.Climbers)),
			checkClimber(d.B, len(l.Climbers)),
			check.If(d.A == d.B, api.ErrTwice),
		)
	})
}

// checkMember returns the first error of a league and of the number of a climber.
func checkMember(l League, climber int) api.Errno {
	return check.First(CheckLeague(l), checkClimber(climber, len(l.Climbers)))
}
