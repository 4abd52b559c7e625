// Package exact has integers and rational numbers of any size, and spans and tables of them. The layers compute with them, as no limit bounds what is on the way to a result.
package exact

// Int is an integer. The zero value is 0.
type Int struct {
	negative bool
	size     nat
}

func intOf(negative bool, size nat) Int {
	return Int{negative: negative && len(size) > 0, size: size}
}

// Whole returns n as an Int.
func Whole(n int) Int {
	size := uint64(n)
	if n < 0 {
		size = -size
	}
	return intOf(n < 0, natOf(size))
}

// Word returns n as an Int.
func Word(n uint64) Int {
	return intOf(false, natOf(n))
}

// TwoTo returns 2 to the power of n, which is not negative.
func TwoTo(n int) Int {
	return intOf(false, twoTo(n))
}

// Sign returns -1, 0 or 1 if a is negative, 0, or positive.
func (a Int) Sign() int {
	switch {
	case a.negative:
		return -1
	case len(a.size) == 0:
		return 0
	}
	return 1
}

// Bits returns the number of binary digits of a, without its sign; that of 0 is 0.
func (a Int) Bits() int {
	return a.size.bits()
}

// Compare returns -1, 0 or 1 if a is less than, equal to, or greater than b.
func (a Int) Compare(b Int) int {
	switch {
	case a.negative && b.negative:
		return b.size.compare(a.size)
	case a.negative:
		return -1
	case b.negative:
		return 1
	}
	return a.size.compare(b.size)
}

// Negated returns a with the other sign.
func (a Int) Negated() Int {
	return intOf(!a.negative, a.size)
}

// Size returns a without its sign.
func (a Int) Size() Int {
	return intOf(false, a.size)
}

// Plus returns the sum of a and b.
func (a Int) Plus(b Int) Int {
	switch {
	case a.negative == b.negative:
		return intOf(a.negative, a.size.plus(b.size))
	case a.size.compare(b.size) < 0:
		return intOf(b.negative, b.size.minus(a.size))
	}
	return intOf(a.negative, a.size.minus(b.size))
}

// Minus returns a less b.
func (a Int) Minus(b Int) Int {
	return a.Plus(b.Negated())
}

// Times returns the product of a and b.
func (a Int) Times(b Int) Int {
	return intOf(a.negative != b.negative, a.size.times(b.size))
}

// Over returns the greatest integer that is not above the quotient of a and b, and what a is more than b times this. The divisor b is above 0.
func (a Int) Over(b Int) (Int, Int) {
	q, r := a.size.divide(b.size)
	if !a.negative || len(r) == 0 {
		return intOf(a.negative, q), intOf(false, r)
	}
	return intOf(true, q.plus(natOf(1))), intOf(false, b.size.minus(r))
}

// Modulo returns the remainder of a, from 0 to d - 1, on division by d, which is not 0.
func (a Int) Modulo(d uint64) uint64 {
	r := a.size.modulo(d)
	if a.negative && r > 0 {
		return d - r
	}
	return r
}

// Divisor returns the greatest common divisor of a and b, which are not both 0.
func (a Int) Divisor(b Int) Int {
	return intOf(false, a.size.gcd(b.size))
}

// Root returns the greatest integer whose square is at most a, which is not negative.
func (a Int) Root() Int {
	return intOf(false, a.size.root())
}
