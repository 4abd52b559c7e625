package result

import (
	"math"
	"slices"

	"crux/api"
	"crux/check"
	"crux/number"
)

// The reasons of bars.
const (
	above = "above"
	below = "below"
)

// question asks whether a climber among others can have a rank, by their open values.
type question struct {
	climber Open
	others  []Open
	rank    int
}

// CheckOpen returns the first error of open values, or OK.
func CheckOpen(l []Open) api.Errno {
	switch {
	case len(l) == 0:
		return api.ErrEmpty
	case len(l) > api.MaxClimbers:
		return api.ErrMany
	}
	return check.Each(l, func(i int, o Open) api.Errno {
		isSame := func(before Open) bool { return before.Climber == o.Climber }
		return check.First(
			check.If(!number.IsName(o.Climber), api.ErrName),
			check.If(slices.ContainsFunc(l[:i], isSame), api.ErrTwice),
			check.Range(o.Low, 0, api.MaxPoints),
			check.Range(o.High, 0, api.MaxPoints),
			check.If(o.Low > o.High, api.ErrOrder),
		)
	})
}

// Ranks returns the ranks that a climber can still have.
func Ranks(l []Open, climber int) ([]int, api.Errno) {
	if e := check.First(CheckOpen(l), checkClimber(climber, len(l))); e != api.OK {
		return nil, e
	}
	var possible []int
	for i := range l {
		if rank := i + 1; ask(l, climber, rank).isPossible() {
			possible = append(possible, rank)
		}
	}
	return possible, api.OK
}

// Witness returns values with which a climber has a rank.
func Witness(l []Open, climber, rank int) ([]int, api.Errno) {
	if e := checkQuestion(l, climber, rank); e != api.OK {
		return nil, e
	}
	q := ask(l, climber, rank)
	if !q.isPossible() {
		return nil, api.ErrInfeasible
	}
	value := q.turn()
	better := rank - 1 - q.above(value, Open.low)
	var values []int
	for i, o := range l {
		switch isFree := o.Low <= value && o.High > value; {
		case i == climber:
			values = append(values, value)
		case isFree && better > 0:
			better--
			values = append(values, o.High)
		default:
			values = append(values, o.Low)
		}
	}
	return values, api.OK
}

// CheckWitness returns OK for values with which a climber has a rank.
func CheckWitness(l []Open, climber, rank int, values []int) api.Errno {
	e := check.First(checkQuestion(l, climber, rank), check.If(len(values) != len(l), api.ErrShape))
	if e != api.OK {
		return e
	}
	e = check.Each(values, func(i, value int) api.Errno {
		return check.Range(value, l[i].Low, l[i].High)
	})
	if e != api.OK {
		return e
	}
	better := 0
	for _, value := range values {
		if value > values[climber] {
			better++
		}
	}
	return check.If(rank != 1+better, api.ErrProof)
}

// Excluded returns a proof that a climber cannot have a rank.
func Excluded(l []Open, climber, rank int) ([]Bar, api.Errno) {
	if e := checkQuestion(l, climber, rank); e != api.OK {
		return nil, e
	}
	q := ask(l, climber, rank)
	if q.isPossible() {
		return nil, api.ErrNone
	}
	low, high, turn := q.climber.Low, q.climber.High, q.turn()
	var bars []Bar
	if low < turn {
		bars = append(bars, Bar{From: low, To: min(turn-1, high), Reason: above})
	}
	if turn <= high {
		bars = append(bars, Bar{From: turn, To: high, Reason: below})
	}
	return bars, api.OK
}

// CheckExcluded returns OK for a proof that a climber cannot have a rank.
func CheckExcluded(l []Open, climber, rank int, bars []Bar) api.Errno {
	e := check.First(checkQuestion(l, climber, rank), check.If(len(bars) == 0, api.ErrEmpty))
	if e != api.OK {
		return e
	}
	q := ask(l, climber, rank)
	e = check.Each(bars, func(i int, b Bar) api.Errno {
		return check.First(
			check.If(b.Reason != above && b.Reason != below, api.ErrKind),
			check.If(!b.continues(bars[:i], q.climber.Low), api.ErrOrder),
			check.If(!q.holds(b), api.ErrProof),
		)
	})
	return check.First(e, check.If(bars[len(bars)-1].To != q.climber.High, api.ErrShape))
}

func ask(l []Open, climber, rank int) question {
	return question{l[climber], slices.Concat(l[:climber], l[climber+1:]), rank}
}

func (o Open) low() int {
	return o.Low
}

func (o Open) high() int {
	return o.High
}

// above returns the number of others of whom an end is above a value.
func (q question) above(value int, end func(Open) int) int {
	n := 0
	for _, o := range q.others {
		if end(o) > value {
			n++
		}
	}
	return n
}

// turn returns the least value with which the rank is not too good, as fewer others than the rank says are above in any case; it may be above all values of the climber. With lower values too many are above, and with higher values fewer can be: so the rank is possible with this value, or not at all.
func (q question) turn() int {
	var lows []int
	for _, o := range q.others {
		lows = append(lows, o.Low)
	}
	slices.Sort(lows)
	if q.rank > len(lows) {
		return q.climber.Low
	}
	return max(q.climber.Low, lows[len(lows)-q.rank])
}

func (q question) isPossible() bool {
	turn := q.turn()
	return turn <= q.climber.High && q.above(turn, Open.high) >= q.rank-1
}

// holds returns whether the reason of a bar holds.
func (q question) holds(b Bar) bool {
	if b.Reason == above {
		return q.above(b.To, Open.low) >= q.rank
	}
	return q.above(b.From, Open.high) <= q.rank-2
}

// continues returns whether a bar begins right behind the bars before, or with the lowest value, and does not end before it begins.
func (b Bar) continues(before []Bar, low int) bool {
	if len(before) > 0 {
		last := before[len(before)-1].To
		if last == math.MaxInt {
			return false
		}
		low = last + 1
	}
	return b == Bar{From: low, To: max(low, b.To), Reason: b.Reason}
}

// checkClimber returns ErrUnknown if there is no climber with a number among so many.
func checkClimber(climber, climbers int) api.Errno {
	return check.If(climber < 0 || climber >= climbers, api.ErrUnknown)
}

func checkQuestion(l []Open, climber, rank int) api.Errno {
	return check.First(CheckOpen(l), checkClimber(climber, len(l)), check.Range(rank, 1, len(l)))
}
