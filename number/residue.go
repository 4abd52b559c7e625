package number

import (
	"iter"
	"math/bits"

	"crux/exact"
)

// firstPrime is a prime of Mersenne. It is large, so that few primes are needed, and leaves room for the sum of two residues.
const firstPrime = 1<<61 - 1

// field is what elimination has to know of numbers.
type field[T any] interface {
	minus(T) T
	times(T) T
	inverse() T
	isZero() bool
}

// residue is an integer from 0 to prime - 1, modulo a prime below 2^63.
type residue struct {
	value uint64
	prime uint64
}

func (a residue) plus(b residue) residue {
	return residue{(a.value + b.value) % a.prime, a.prime}
}

func (a residue) minus(b residue) residue {
	return residue{(a.value + a.prime - b.value) % a.prime, a.prime}
}

func (a residue) times(b residue) residue {
	high, low := bits.Mul64(a.value, b.value)
	return residue{bits.Rem64(high, low, a.prime), a.prime}
}

// inverse returns what gives 1 with a, which is not 0: by Fermat a power of it.
func (a residue) inverse() residue {
	return a.power(a.prime - 2)
}

func (a residue) isZero() bool {
	return a.value == 0
}

func (a residue) power(exponent uint64) residue {
	z := residue{1, a.prime}
	for ; exponent > 0; exponent >>= 1 {
		if exponent&1 == 1 {
			z = z.times(a)
		}
		a = a.times(a)
	}
	return z
}

// eliminate makes the columns of rows those of the unit matrix, as many as there are rows, and reports whether it could.
func eliminate[T field[T]](rows [][]T) bool {
columns:
	for c := range rows {
		for r := c; r < len(rows); r++ {
			if !rows[r][c].isZero() {
				rows[c], rows[r] = rows[r], rows[c]
				clearColumn(rows, c)
				continue columns
			}
		}
		return false
	}
	return true
}

// clearColumn makes the column c that of the unit matrix; it has a pivot in the row c.
func clearColumn[T field[T]](rows [][]T, c int) {
	pivot := rows[c]
	factor := pivot[c].inverse()
	for j := range pivot {
		pivot[j] = pivot[j].times(factor)
	}
	for r, row := range rows {
		factor := row[c]
		if r == c || factor.isZero() {
			continue
		}
		for j := range row {
			row[j] = row[j].minus(factor.times(pivot[j]))
		}
	}
}

// invert returns the inverse of the left square of rows modulo a prime, and whether there is one for any prime. Its determinant is 0 if it is for primes whose product is greater than it.
func invert(rows [][]exact.Int) ([][]residue, bool) {
	most := bound(rows)
	known := 0
	for prime := range primes() {
		inverse, ok := inverseModulo(rows, prime)
		if ok {
			return inverse, true
		}
		known += bits.Len64(prime) - 1
		if known >= most {
			break
		}
	}
	return nil, false
}

func inverseModulo(rows [][]exact.Int, prime uint64) ([][]residue, bool) {
	n := len(rows)
	wide := make([][]residue, n)
	for i := range wide {
		wide[i] = make([]residue, 2*n)
		for j := range n {
			wide[i][j] = residue{rows[i][j].Modulo(prime), prime}
			wide[i][n+j] = residue{0, prime}
		}
		wide[i][n+i] = residue{1, prime}
	}
	if !eliminate(wide) {
		return nil, false
	}
	for i := range wide {
		wide[i] = wide[i][n:]
	}
	return wide, true
}

// primes gives out primes from firstPrime on downwards.
func primes() iter.Seq[uint64] {
	return func(yield func(uint64) bool) {
		for n := uint64(firstPrime); n > 2; n -= 2 {
			if isPrime(n) && !yield(n) {
				return
			}
		}
	}
}

// isPrime reports whether an odd number from 3 to 2^63 is a prime: up to there the test of Miller and Rabin with the first twelve primes never errs.
func isPrime(n uint64) bool {
	for _, base := range [12]uint64{2, 3, 5, 7, 11, 13, 17, 19, 23, 29, 31, 37} {
		if n%base == 0 {
			return n == base
		}
		if !passes(n, base) {
			return false
		}
	}
	return true
}

// passes reports whether an odd number passes the test of Miller and Rabin with a base that it does not divide.
func passes(n, base uint64) bool {
	twos := bits.TrailingZeros64(n - 1)
	x := residue{base % n, n}.power((n - 1) >> twos)
	if x.value == 1 {
		return true
	}
	for range twos {
		if x.value == n-1 {
			return true
		}
		x = x.times(x)
	}
	return false
}
