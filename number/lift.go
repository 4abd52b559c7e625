package number

import (
	"crux/api"
	"crux/exact"
)

// lift returns the solution of equations (rows, each one with its right side behind it) with an inverse of their matrix modulo a prime, and whether no number of it is larger than numbers may be. It is Dixon's: the solution is made modulo a power of the prime, digit by digit, and numbers of a bounded size are told by their residues.
func lift(rows [][]exact.Int, inverse [][]residue) ([]exact.Rat, bool) {
	// No number of up to MaxDigits digits has more than 4 bits a digit.
	limit := exact.TwoTo(min(bound(rows), 4*api.MaxDigits))
	residues, modulus := liftResidues(rows, inverse, limit.Times(limit).Times(exact.Whole(2)))
	solution := []exact.Rat{}
	for _, r := range residues {
		solution = append(solution, fraction(r, modulus, limit))
	}
	return solution, solves(rows, solution)
}

// liftResidues returns the solution modulo the first power of the prime above a limit, and this power.
func liftResidues(rows [][]exact.Int, inverse [][]residue, limit exact.Int) ([]exact.Int, exact.Int) {
	n := len(rows)
	prime := exact.Word(inverse[0][0].prime)
	modulus := exact.Whole(1)
	solution := make([]exact.Int, n)
	rest := make([]exact.Int, n)
	for i, row := range rows {
		rest[i] = row[n]
	}
	for modulus.Compare(limit) <= 0 {
		digits := nextDigits(inverse, rest)
		for i, row := range rows {
			solution[i] = solution[i].Plus(digits[i].Times(modulus))
			rest[i], _ = rest[i].Minus(product(row[:n], digits)).Over(prime)
		}
		modulus = modulus.Times(prime)
	}
	return solution, modulus
}

// nextDigits returns what an inverse gives for right sides.
func nextDigits(inverse [][]residue, sides []exact.Int) []exact.Int {
	digits := []exact.Int{}
	for _, row := range inverse {
		sum := residue{0, row[0].prime}
		for j, x := range row {
			side := residue{sides[j].Modulo(x.prime), x.prime}
			sum = sum.plus(x.times(side))
		}
		digits = append(digits, exact.Word(sum.value))
	}
	return digits
}

func product(a, b []exact.Int) exact.Int {
	sum := exact.Whole(0)
	for i := range a {
		sum = sum.Plus(a[i].Times(b[i]))
	}
	return sum
}

// fraction returns the only number with a residue whose numerator and denominator are at most a limit, if there is one, otherwise any other number. The modulus is greater than twice the square of the limit.
func fraction(r, modulus, limit exact.Int) exact.Rat {
	a, b := modulus, r
	s, t := exact.Whole(0), exact.Whole(1)
	for b.Compare(limit) > 0 {
		q, rest := a.Over(b)
		a, b = b, rest
		s, t = t, s.Minus(q.Times(t))
	}
	return exact.Quotient(b, t)
}

// solves reports whether numbers are the solution of equations.
func solves(rows [][]exact.Int, solution []exact.Rat) bool {
	n := len(rows)
	common := commonDenominator(solution)
	whole := cleared(solution)
	for _, row := range rows {
		if product(row[:n], whole).Compare(row[n].Times(common)) != 0 {
			return false
		}
	}
	return true
}
