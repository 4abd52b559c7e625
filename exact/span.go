package exact

import "slices"

// rootParts is the number of parts of 1 to which roots are rounded.
const rootParts = 1000

// Span is the numbers from Low to High, which is at least Low.
type Span struct {
	Low  Rat
	High Rat
}

// Only returns the span that has one number.
func Only(x Rat) Span {
	return Span{Low: x, High: x}
}

// Root returns the span that contains the root of x, which is not negative: only the root, if it is rational, otherwise rounded to parts of 1.
func Root(x Rat) Span {
	num, den := x.num.Root(), x.den.Root()
	if num.Times(num).Compare(x.num) == 0 && den.Times(den).Compare(x.den) == 0 {
		return Only(Rat{num: num, den: den})
	}
	// An integer n has a square of at most a number exactly if it has one of at most the floor of this number.
	parts := Whole(rootParts)
	squares, _ := parts.Times(parts).Times(x.num).Over(x.den)
	n := squares.Root()
	return Span{Low: Quotient(n, parts), High: Quotient(n.Plus(Whole(1)), parts)}
}

// Plus returns the span of the sums of numbers of a and b.
func (a Span) Plus(b Span) Span {
	return Span{Low: a.Low.Plus(b.Low), High: a.High.Plus(b.High)}
}

// Minus returns the span of the differences.
func (a Span) Minus(b Span) Span {
	return Span{Low: a.Low.Minus(b.High), High: a.High.Minus(b.Low)}
}

// Times returns the span of the products.
func (a Span) Times(b Span) Span {
	return around(a.Low.Times(b.Low), a.Low.Times(b.High), a.High.Times(b.Low), a.High.Times(b.High))
}

// Over returns the span of the quotients by numbers of b, of which none is 0.
func (a Span) Over(b Span) Span {
	return around(a.Low.Over(b.Low), a.Low.Over(b.High), a.High.Over(b.Low), a.High.Over(b.High))
}

// around returns the span from the least to the greatest one of numbers.
func around(l ...Rat) Span {
	return Span{Low: slices.MinFunc(l, Rat.Compare), High: slices.MaxFunc(l, Rat.Compare)}
}
