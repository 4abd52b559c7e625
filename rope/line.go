package rope

import (
	"iter"

	"crux/api"
	"crux/check"
	"crux/exact"
	"crux/number"
	"crux/space"
)

// CheckLine returns the first error of a line, or OK.
func CheckLine(l []api.Place) api.Errno {
	if len(l) < 2 || len(l) > MaxLine {
		return api.ErrShape
	}
	return check.Each(l, func(i int, a api.Place) api.Errno {
		return check.First(
			check.Places(a),
			check.If(i > 0 && space.Of(a) == space.Of(l[i-1]), api.ErrTwice),
		)
	})
}

// Length returns the span of the length of a line.
func Length(l []api.Place) (api.Span, api.Errno) {
	if e := CheckLine(l); e != api.OK {
		return api.Span{}, e
	}
	var steps []exact.Span
	for i := 1; i < len(l); i++ {
		steps = append(steps, exact.Root(whole(space.Square(l[i-1], l[i]))))
	}
	return writeSpan(sum(steps[0], steps[1:]...))
}

// Turn returns the turn of a line at an inner place.
func Turn(l []api.Place, i int) (api.Rat, api.Errno) {
	e := check.First(CheckLine(l), check.If(i < 1 || i > len(l)-2, api.ErrUnknown))
	if e != api.OK {
		return "", e
	}
	return write(turn(l, i))
}

// CheckFriction returns the first error of a friction, or OK.
func CheckFriction(t []api.Point) api.Errno {
	if e := number.CheckTable(t); e != api.OK {
		return e
	}
	return check.Each(t, func(i int, p api.Point) api.Errno {
		return check.First(
			check.If(isLess(p.Y, "1"), api.ErrRange),
			check.If(i > 0 && isLess(t[i-1].Y, p.Y), api.ErrOrder),
		)
	})
}

// Drag returns the drag of a line.
func Drag(l []api.Place, t []api.Point) (api.Rat, api.Errno) {
	if e := check.First(CheckLine(l), CheckFriction(t)); e != api.OK {
		return "", e
	}
	return write(drag(l, t))
}

// isLess compares numbers without errors.
func isLess(a, b api.Rat) bool {
	n, _ := number.Order(a, b)
	return n < 0
}

// inner goes through the numbers of the inner places of a line.
func inner(l []api.Place) iter.Seq[int] {
	return func(yield func(int) bool) {
		for i := 1; i < len(l)-1; i++ {
			if !yield(i) {
				return
			}
		}
	}
}

func turn(l []api.Place, i int) exact.Rat {
	u, v := space.Way(l[i-1], l[i]), space.Way(l[i], l[i+1])
	// The product of two scalar products of ways may need more than 64 bits.
	product := exact.Whole(u.Dot(v))
	squares := exact.Whole(u.Dot(u)).Times(exact.Whole(v.Dot(v)))
	return exact.Quotient(product.Times(product.Size()), squares)
}

func drag(l []api.Place, t []api.Point) exact.Rat {
	table := readTable(t)
	num, den := exact.Whole(1), exact.Whole(1)
	for i := range inner(l) {
		// Common divisors of long values take long to find, so they are looked for once.
		value := exact.Value(table, turn(l, i))
		num, den = num.Times(value.Num()), den.Times(value.Den())
	}
	return exact.Quotient(num, den)
}
