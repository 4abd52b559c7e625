package number

import (
	"slices"

	"crux/api"
	"crux/check"
	"crux/exact"
)

// rootParts is the number of parts of 1 to which roots are rounded.
const rootParts = 1000

// interval is a span in exact numbers.
type interval struct {
	low  exact.Rat
	high exact.Rat
}

// CheckSpan returns the first error of a span, or OK.
func CheckSpan(s api.Span) api.Errno {
	_, e := readSpan(s)
	return e
}

// Plus returns the sum of two spans.
func Plus(a, b api.Span) (api.Span, api.Errno) {
	return computeSpan(a, b, interval.plus)
}

// Minus returns the difference of two spans.
func Minus(a, b api.Span) (api.Span, api.Errno) {
	return computeSpan(a, b, interval.minus)
}

// Times returns the product of two spans.
func Times(a, b api.Span) (api.Span, api.Errno) {
	return computeSpan(a, b, interval.times)
}

// Over returns the quotient of two spans.
func Over(a, b api.Span) (api.Span, api.Errno) {
	x, y, e := readTwoSpans(a, b)
	hasZero := y.low.Sign() <= 0 && y.high.Sign() >= 0
	if e = check.First(e, check.If(hasZero, api.ErrZero)); e != api.OK {
		return api.Span{}, e
	}
	return writeSpan(x.over(y))
}

// Root returns a span that contains the root of a number.
func Root(a api.Rat) (api.Span, api.Errno) {
	x, e := read(a)
	if e != api.OK {
		return api.Span{}, e
	}
	if x.Sign() < 0 {
		return api.Span{}, api.ErrRange
	}
	return writeSpan(root(x))
}

func root(x exact.Rat) interval {
	num, den := x.Num().Root(), x.Den().Root()
	if y := exact.Quotient(num, den); y.Times(y).Compare(x) == 0 {
		return interval{y, y}
	}
	// An integer n has a square of at most a number exactly if it has one of at most the floor of this number.
	parts := exact.Whole(rootParts)
	squares := exact.Integer(parts.Times(parts)).Times(x).Floor()
	n := squares.Root()
	return interval{exact.Quotient(n, parts), exact.Quotient(n.Plus(exact.Whole(1)), parts)}
}

func (a interval) plus(b interval) interval {
	return interval{a.low.Plus(b.low), a.high.Plus(b.high)}
}

func (a interval) minus(b interval) interval {
	return interval{a.low.Minus(b.high), a.high.Minus(b.low)}
}

func (a interval) times(b interval) interval {
	return around(a.low.Times(b.low), a.low.Times(b.high), a.high.Times(b.low), a.high.Times(b.high))
}

// over divides by a span without 0.
func (a interval) over(b interval) interval {
	return around(a.low.Over(b.low), a.low.Over(b.high), a.high.Over(b.low), a.high.Over(b.high))
}

// around returns the span from the least to the greatest one of numbers.
func around(l ...exact.Rat) interval {
	return interval{slices.MinFunc(l, exact.Rat.Compare), slices.MaxFunc(l, exact.Rat.Compare)}
}

func computeSpan(a, b api.Span, operation func(x, y interval) interval) (api.Span, api.Errno) {
	x, y, e := readTwoSpans(a, b)
	if e != api.OK {
		return api.Span{}, e
	}
	return writeSpan(operation(x, y))
}

func readTwoSpans(a, b api.Span) (interval, interval, api.Errno) {
	x, first := readSpan(a)
	y, second := readSpan(b)
	return x, y, check.First(first, second)
}

// readSpan returns the span with two texts, or its error.
func readSpan(s api.Span) (interval, api.Errno) {
	low, high, e := readTwo(s.Low, s.High)
	if e != api.OK {
		return interval{}, e
	}
	if low.Compare(high) > 0 {
		return interval{}, api.ErrOrder
	}
	return interval{low, high}, api.OK
}

// writeSpan returns the texts of a span, or ErrLarge.
func writeSpan(s interval) (api.Span, api.Errno) {
	low, first := write(s.low)
	high, second := write(s.high)
	if e := check.First(first, second); e != api.OK {
		return api.Span{}, e
	}
	return api.Span{Low: low, High: high}, api.OK
}
