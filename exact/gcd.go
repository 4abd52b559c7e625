package exact

import "math/bits"

// gcd returns the greatest common divisor of a and b, which are not both 0. It does Lehmer's steps, each of which is many of Euclid's.
func (a nat) gcd(b nat) nat {
	if a.compare(b) < 0 {
		a, b = b, a
	}
	for len(b) > 1 {
		s := lehmerStep(a, b)
		if s.v0 > 0 {
			a, b = s.first(a, b), s.second(a, b)
			continue
		}
		_, r := a.divide(b)
		a, b = b, r
	}
	if len(b) == 0 {
		return a
	}
	return natOf(gcdWords(b[0], a.modulo(b[0])))
}

// step replaces numbers a and b by u0 a - v0 b and v1 b - u1 a, or, if it is odd, by those with the other signs.
type step struct {
	u0, v0 uint64
	u1, v1 uint64
	odd    bool
}

func (s step) first(a, b nat) nat {
	return difference(a, s.u0, b, s.v0, s.odd)
}

func (s step) second(a, b nat) nat {
	return difference(b, s.v1, a, s.u1, s.odd)
}

// difference returns a times m less b times n, or, if it is turned, b times n less a times m.
func difference(a nat, m uint64, b nat, n uint64, turned bool) nat {
	x, y := a.times(natOf(m)), b.times(natOf(n))
	if turned {
		return y.minus(x)
	}
	return x.minus(y)
}

// lehmerStep returns those of Euclid's steps for a and b, of which a is the greater one, whose quotients follow from the highest words by Collins' condition. (The last of these steps is not done; with v0 0 there is none.)
func lehmerStep(a, b nat) step {
	n := len(a)
	shift := bits.LeadingZeros64(a[n-1])
	x, y := a.window(n-1, shift), b.window(n-1, shift)
	s := step{u1: 1, odd: true}
	u2, v2 := uint64(0), uint64(1)
	for y >= v2 && x-y >= s.v1+v2 {
		q := x / y
		x, y = y, x%y
		s.u0, s.u1, u2 = s.u1, u2, s.u1+q*u2
		s.v0, s.v1, v2 = s.v1, v2, s.v1+q*v2
		s.odd = !s.odd
	}
	return s
}

// window returns the 64 bits of a that begin shift bits below the upper end of the word i.
func (a nat) window(i, shift int) uint64 {
	return a.word(i)<<shift | a.word(i-1)>>(64-shift)
}

func (a nat) word(i int) uint64 {
	if i < len(a) {
		return a[i]
	}
	return 0
}

func gcdWords(a, b uint64) uint64 {
	for b > 0 {
		a, b = b, a%b
	}
	return a
}
