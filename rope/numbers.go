package rope

import (
	"crux/api"
	"crux/exact"
	"crux/number"
)

// whole returns n as a Rat.
func whole(n int) exact.Rat {
	return exact.Integer(exact.Whole(n))
}

// readSpan returns the span with two texts, which are right.
func readSpan(s api.Span) exact.Span {
	return exact.Span{Low: exact.ParseRat(string(s.Low)), High: exact.ParseRat(string(s.High))}
}

// readTable returns the table with texts, which are right.
func readTable(t []api.Point) []exact.Point {
	var table []exact.Point
	for _, p := range t {
		table = append(table, exact.Point{X: exact.ParseRat(string(p.X)), Y: exact.ParseRat(string(p.Y))})
	}
	return table
}

// write returns the text of a number, or ErrLarge.
func write(x exact.Rat) (api.Rat, api.Errno) {
	text := api.Rat(x.String())
	if e := number.Check(text); e != api.OK {
		return "", e
	}
	return text, api.OK
}

// writeSpan returns the texts of a span, or ErrLarge.
func writeSpan(s exact.Span) (api.Span, api.Errno) {
	span := api.Span{Low: api.Rat(s.Low.String()), High: api.Rat(s.High.String())}
	if e := number.CheckSpan(span); e != api.OK {
		return api.Span{}, e
	}
	return span, api.OK
}

// writeAll writes the elements of a list, or returns the error of the first one that has one.
func writeAll[X, T any](l []X, writeOne func(x X) (T, api.Errno)) ([]T, api.Errno) {
	var texts []T
	for _, x := range l {
		text, e := writeOne(x)
		if e != api.OK {
			return nil, e
		}
		texts = append(texts, text)
	}
	return texts, api.OK
}

// summand is what can be added to others of its type.
type summand[T any] interface {
	Plus(T) T
}

// sum returns the sum of numbers, or of spans.
func sum[T summand[T]](first T, more ...T) T {
	for _, x := range more {
		first = first.Plus(x)
	}
	return first
}
