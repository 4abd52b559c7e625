package exact

import (
	"cmp"
	"math"
	"math/bits"
)

// nat is a natural number: words of 64 bits, the lowest one first, the last one not 0.
// A nat is never changed once it has been returned.
type nat []uint64

func natOf(word uint64) nat {
	return trimmed(nat{word})
}

// twoTo returns 2 to the power of n.
func twoTo(n int) nat {
	z := make(nat, n/64+1)
	z[n/64] = 1 << (n % 64)
	return z
}

// trimmed returns z without the zeros at its high end.
func trimmed(z nat) nat {
	for len(z) > 0 && z[len(z)-1] == 0 {
		z = z[:len(z)-1]
	}
	return z
}

func (a nat) bits() int {
	if len(a) == 0 {
		return 0
	}
	return 64*(len(a)-1) + bits.Len64(a[len(a)-1])
}

func (a nat) compare(b nat) int {
	if len(a) != len(b) {
		return cmp.Compare(len(a), len(b))
	}
	for i := len(a) - 1; i >= 0; i-- {
		if a[i] != b[i] {
			return cmp.Compare(a[i], b[i])
		}
	}
	return 0
}

func (a nat) plus(b nat) nat {
	if len(a) < len(b) {
		a, b = b, a
	}
	z := make(nat, len(a)+1)
	copy(z, a)
	carry := addWords(z[:len(b)], b)
	for i := len(b); i < len(z); i++ {
		z[i], carry = bits.Add64(z[i], 0, carry)
	}
	return trimmed(z)
}

// minus returns a less b, which is at most a.
func (a nat) minus(b nat) nat {
	z := make(nat, len(a))
	borrow := uint64(0)
	for i := range b {
		z[i], borrow = bits.Sub64(a[i], b[i], borrow)
	}
	for i := len(b); i < len(a); i++ {
		z[i], borrow = bits.Sub64(a[i], 0, borrow)
	}
	return trimmed(z)
}

func (a nat) times(b nat) nat {
	z := make(nat, len(a)+len(b))
	for i, word := range a {
		z[i+len(b)] = addProduct(z[i:i+len(b)], b, word)
	}
	return trimmed(z)
}

// left returns a shifted left by less than 64 bits, in one word more than a has.
func (a nat) left(shift int) nat {
	z := make(nat, len(a)+1)
	for i, word := range a {
		high, low := bits.Mul64(word, 1<<shift)
		z[i] |= low
		z[i+1] = high
	}
	return z
}

// right returns a shifted right by less than 64 bits.
func (a nat) right(shift int) nat {
	z := make(nat, len(a))
	for i, word := range a {
		z[i] = word >> shift
		if i > 0 {
			z[i-1] |= word << (64 - shift)
		}
	}
	return trimmed(z)
}

// divide returns the quotient and the remainder of a by b, which is not 0.
func (a nat) divide(b nat) (nat, nat) {
	if a.compare(b) < 0 {
		return nil, a
	}
	if len(b) == 1 {
		q, r := a.divideWord(b[0])
		return q, natOf(r)
	}
	// With the highest bit of the divisor set, a guess by the highest words is at most 2 too large.
	shift := bits.LeadingZeros64(b[len(b)-1])
	d := b.left(shift)[:len(b)]
	rest := a.left(shift)
	q := make(nat, len(a)-len(b)+1)
	for i := len(q) - 1; i >= 0; i-- {
		q[i] = divideStep(rest[i:i+len(d)+1], d)
	}
	return trimmed(q), trimmed(rest).right(shift)
}

// divideStep returns the quotient of rest by d, which is a word, and leaves the remainder in rest, which has one word more than d.
func divideStep(rest, d nat) uint64 {
	n := len(d)
	guess := uint64(math.MaxUint64)
	if rest[n] < d[n-1] {
		guess, _ = bits.Div64(rest[n], rest[n-1], d[n-1])
	}
	highest, borrow := bits.Sub64(rest[n], subtractProduct(rest[:n], d, guess), 0)
	for borrow > 0 {
		guess--
		carry := addWords(rest[:n], d)
		highest, carry = bits.Add64(highest, carry, 0)
		borrow -= carry
	}
	rest[n] = highest
	return guess
}

// divideWord returns the quotient and the remainder of a by d, which is not 0.
func (a nat) divideWord(d uint64) (nat, uint64) {
	q := make(nat, len(a))
	rest := uint64(0)
	for i := len(a) - 1; i >= 0; i-- {
		q[i], rest = bits.Div64(rest, a[i], d)
	}
	return trimmed(q), rest
}

// modulo returns the remainder of a by d, which is not 0.
func (a nat) modulo(d uint64) uint64 {
	rest := uint64(0)
	for i := len(a) - 1; i >= 0; i-- {
		rest = bits.Rem64(rest, a[i], d)
	}
	return rest
}

// root returns the greatest number whose square is at most a.
func (a nat) root() nat {
	if len(a) == 0 {
		return nil
	}
	// Newton's steps descend to the root from any number above it.
	x := twoTo((a.bits() + 1) / 2)
	for {
		q, _ := a.divide(x)
		next := x.plus(q).right(1)
		if next.compare(x) >= 0 {
			return x
		}
		x = next
	}
}

// addWords adds b to the words of z, which are as many, and returns what is carried out of them.
func addWords(z, b nat) uint64 {
	carry := uint64(0)
	for i := range b {
		z[i], carry = bits.Add64(z[i], b[i], carry)
	}
	return carry
}

// addProduct adds b times a word to the words of z, which are as many as those of b, and returns what is carried out of them.
func addProduct(z, b nat, word uint64) uint64 {
	carry := uint64(0)
	for i := range b {
		high, low := bits.Mul64(b[i], word)
		low, more := bits.Add64(low, carry, 0)
		high += more
		z[i], more = bits.Add64(z[i], low, 0)
		carry = high + more
	}
	return carry
}

// subtractProduct takes b times a word from the words of z, which are as many as those of b, and returns what is still to be taken from the words above them.
func subtractProduct(z, b nat, word uint64) uint64 {
	carry := uint64(0)
	for i := range b {
		high, low := bits.Mul64(b[i], word)
		low, more := bits.Add64(low, carry, 0)
		high += more
		z[i], more = bits.Sub64(z[i], low, 0)
		carry = high + more
	}
	return carry
}
