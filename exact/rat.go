package exact

// Rat is a rational number in lowest terms, with a denominator above 0. Numbers are made by Quotient and Integer; the zero value is none.
type Rat struct {
	num Int
	den Int
}

// Integer returns n as a Rat.
func Integer(n Int) Rat {
	return Rat{num: n, den: Whole(1)}
}

// Quotient returns the quotient of num and den, which is not 0.
func Quotient(num, den Int) Rat {
	if den.negative {
		num, den = num.Negated(), den.Negated()
	}
	d := num.Divisor(den)
	if d.Bits() > 1 {
		num, _ = num.Over(d)
		den, _ = den.Over(d)
	}
	return Rat{num: num, den: den}
}

// Num returns the numerator of a.
func (a Rat) Num() Int {
	return a.num
}

// Den returns the denominator of a, which is above 0.
func (a Rat) Den() Int {
	return a.den
}

// Sign returns -1, 0 or 1 if a is negative, 0, or positive.
func (a Rat) Sign() int {
	return a.num.Sign()
}

// Compare returns -1, 0 or 1 if a is less than, equal to, or greater than b.
func (a Rat) Compare(b Rat) int {
	return a.num.Times(b.den).Compare(b.num.Times(a.den))
}

// Plus returns the sum of a and b.
func (a Rat) Plus(b Rat) Rat {
	return Quotient(a.num.Times(b.den).Plus(b.num.Times(a.den)), a.den.Times(b.den))
}

// Minus returns a less b.
func (a Rat) Minus(b Rat) Rat {
	return Quotient(a.num.Times(b.den).Minus(b.num.Times(a.den)), a.den.Times(b.den))
}

// Times returns the product of a and b.
func (a Rat) Times(b Rat) Rat {
	return Quotient(a.num.Times(b.num), a.den.Times(b.den))
}

// Over returns the quotient of a and b, which is not 0.
func (a Rat) Over(b Rat) Rat {
	return Quotient(a.num.Times(b.den), a.den.Times(b.num))
}

// Floor returns the greatest integer that is not above a.
func (a Rat) Floor() Int {
	q, _ := a.num.Over(a.den)
	return q
}
