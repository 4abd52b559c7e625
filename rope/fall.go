package rope

import (
	"crux/api"
	"crux/check"
	"crux/exact"
	"crux/number"
)

// The greatest mass, and the greatest modulus.
const (
	maxMass    = "1000"
	maxModulus = "10000000"
)

// CheckFall returns the first error of a fall, or OK.
func CheckFall(f Fall) api.Errno {
	return check.First(
		checkPositive(f.Mass, maxMass),
		checkPositive(f.Modulus, maxModulus),
		check.Range(f.Rope, 1, api.MaxPlace),
		check.Range(f.Above, 0, api.MaxPlace),
		check.Range(f.Slack, 0, api.MaxPlace),
	)
}

// Factor returns the factor of a fall.
func Factor(f Fall) (api.Rat, api.Errno) {
	if e := CheckFall(f); e != api.OK {
		return "", e
	}
	return write(f.factor())
}

// Force returns the span of the force of a fall.
func Force(f Fall) (api.Span, api.Errno) {
	if e := CheckFall(f); e != api.OK {
		return api.Span{}, e
	}
	return writeSpan(f.force())
}

// Stretch returns the span by which the rope is stretched.
func Stretch(f Fall) (api.Span, api.Errno) {
	if e := CheckFall(f); e != api.OK {
		return api.Span{}, e
	}
	return writeSpan(f.stretch())
}

// Clear returns the span of what is left above the ground.
func Clear(f Fall, height int) (api.Span, api.Errno) {
	if e := check.First(CheckFall(f), checkHeight(height)); e != api.OK {
		return api.Span{}, e
	}
	return writeSpan(f.left(height))
}

// Top returns the span of the load of the last quickdraw.
func Top(f Fall, l []api.Place, t []api.Point) (api.Span, api.Errno) {
	if e := check.First(CheckFall(f), CheckLine(l), CheckFriction(t)); e != api.OK {
		return api.Span{}, e
	}
	both := whole(1).Plus(whole(1).Over(drag(l, t)))
	return writeSpan(f.force().Times(exact.Only(both)))
}

// Safe returns OK for a fall that is safe.
func Safe(f Fall, height, limit int) api.Errno {
	e := check.First(CheckFall(f), checkHeight(height), check.Range(limit, 1, MaxForce))
	if e != api.OK {
		return e
	}
	isSafe := f.force().High.Compare(whole(limit)) <= 0 && f.left(height).Low.Sign() >= 0
	return check.If(!isSafe, api.ErrUnsafe)
}

// checkPositive returns the error of a span, or ErrRange if it does not go from above 0 to at most a greatest number.
func checkPositive(s api.Span, greatest api.Rat) api.Errno {
	return check.First(
		number.CheckSpan(s),
		check.If(!isLess("0", s.Low) || isLess(greatest, s.High), api.ErrRange),
	)
}

func checkHeight(height int) api.Errno {
	return check.Range(height, 0, api.MaxPlace)
}

func (f Fall) distance() int {
	return 2*f.Above + f.Slack
}

func (f Fall) factor() exact.Rat {
	return exact.Quotient(exact.Whole(f.distance()), exact.Whole(f.Rope))
}

func (f Fall) force() exact.Span {
	mass, modulus := readSpan(f.Mass), readSpan(f.Modulus)
	low := f.forceFor(mass.Low, modulus.Low)
	high := f.forceFor(mass.High, modulus.High)
	return exact.Span{Low: low.Low, High: high.High}
}

func (f Fall) forceFor(mass, modulus exact.Rat) exact.Span {
	return lowest(weight(mass), modulus.Times(f.factor()))
}

func (f Fall) stretch() exact.Span {
	mass, modulus := readSpan(f.Mass), readSpan(f.Modulus)
	low := f.stretchFor(mass.Low, modulus.High)
	high := f.stretchFor(mass.High, modulus.Low)
	return exact.Span{Low: low.Low, High: high.High}
}

func (f Fall) stretchFor(mass, modulus exact.Rat) exact.Span {
	atRest := weight(mass).Times(whole(f.Rope)).Over(modulus)
	return lowest(atRest, whole(f.distance()))
}

// left returns what is left above the ground.
func (f Fall) left(height int) exact.Span {
	return exact.Only(whole(height - f.distance())).Minus(f.stretch())
}

func weight(mass exact.Rat) exact.Rat {
	return mass.Times(exact.Quotient(exact.Whole(49), exact.Whole(5)))
}

// lowest returns what a force, or a stretch, is at the lowest point of a fall: a and the root of a a + 2 a b, if it is a when the climber hangs at rest.
func lowest(a, b exact.Rat) exact.Span {
	square := a.Times(sum(a, b, b))
	return sum(exact.Only(a), exact.Root(square))
}
