package number

import (
	"crux/api"
	"crux/check"
	"crux/exact"
)

// CheckSpan returns the first error of a span, or OK.
func CheckSpan(s api.Span) api.Errno {
	_, e := readSpan(s)
	return e
}

// Plus returns the sum of two spans.
func Plus(a, b api.Span) (api.Span, api.Errno) {
	return computeSpan(a, b, exact.Span.Plus)
}

// Minus returns the difference of two spans.
func Minus(a, b api.Span) (api.Span, api.Errno) {
	return computeSpan(a, b, exact.Span.Minus)
}

// Times returns the product of two spans.
func Times(a, b api.Span) (api.Span, api.Errno) {
	return computeSpan(a, b, exact.Span.Times)
}

// Over returns the quotient of two spans.
func Over(a, b api.Span) (api.Span, api.Errno) {
	x, y, e := readTwoSpans(a, b)
	hasZero := y.Low.Sign() <= 0 && y.High.Sign() >= 0
	if e = check.First(e, check.If(hasZero, api.ErrZero)); e != api.OK {
		return api.Span{}, e
	}
	return writeSpan(x.Over(y))
}

// Root returns a span that contains the root of a number.
func Root(a api.Rat) (api.Span, api.Errno) {
	x, e := read(a)
	if e != api.OK {
		return api.Span{}, e
	}
	if x.Sign() < 0 {
		return api.Span{}, api.ErrRange
	}
	return writeSpan(exact.Root(x))
}

func computeSpan(a, b api.Span, operation func(x, y exact.Span) exact.Span) (api.Span, api.Errno) {
	x, y, e := readTwoSpans(a, b)
	if e != api.OK {
		return api.Span{}, e
	}
	return writeSpan(operation(x, y))
}

func readTwoSpans(a, b api.Span) (exact.Span, exact.Span, api.Errno) {
	x, first := readSpan(a)
	y, second := readSpan(b)
	return x, y, check.First(first, second)
}

// readSpan returns the span with two texts, or its error.
func readSpan(s api.Span) (exact.Span, api.Errno) {
	low, high, e := readTwo(s.Low, s.High)
	if e != api.OK {
		return exact.Span{}, e
	}
	if low.Compare(high) > 0 {
		return exact.Span{}, api.ErrOrder
	}
	return exact.Span{Low: low, High: high}, api.OK
}

// writeSpan returns the texts of a span, or ErrLarge.
func writeSpan(s exact.Span) (api.Span, api.Errno) {
	low, first := write(s.Low)
	high, second := write(s.High)
	if e := check.First(first, second); e != api.OK {
		return api.Span{}, e
	}
	return api.Span{Low: low, High: high}, api.OK
}
