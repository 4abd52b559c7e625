package number

import (
	"math/big"
	"math/rand"
	"testing"

	"crux/api"
	"crux/exact"
)

// unit returns the unit matrix with n rows.
func unit(n int) [][]api.Rat {
	m := [][]api.Rat{}
	for i := range n {
		row := zeros(n)
		row[i] = "1"
		m = append(m, row)
	}
	return m
}

func zeros(n int) []api.Rat {
	row := []api.Rat{}
	for range n {
		row = append(row, "0")
	}
	return row
}

// P1.4: equations with a solution.
func TestSolve(t *testing.T) {
	for _, row := range []struct {
		m    [][]api.Rat
		b, x []api.Rat
	}{
		{[][]api.Rat{{"1", "1"}, {"1", "-1"}}, []api.Rat{"3", "1"}, []api.Rat{"2", "1"}},
		{[][]api.Rat{{"0", "1"}, {"1", "0"}}, []api.Rat{"3", "1/2"}, []api.Rat{"1/2", "3"}},
		{[][]api.Rat{{"2/3"}}, []api.Rat{"-5/7"}, []api.Rat{"-15/14"}},
		{[][]api.Rat{{"-1"}}, []api.Rat{"0"}, []api.Rat{"0"}},
		{[][]api.Rat{{"0", "0", "2"}, {"0", "3", "0"}, {"4", "0", "0"}}, []api.Rat{"1", "1", "1"}, []api.Rat{"1/4", "1/3", "1/2"}},
		{[][]api.Rat{{"1", "2", "3"}, {"2", "4", "7"}, {"1", "1", "1"}}, []api.Rat{"6", "13", "3"}, []api.Rat{"1", "1", "1"}},
		{unit(24), zeros(24), zeros(24)},
		// Determinants that the first primes of elimination divide.
		{[][]api.Rat{{"2305843009213693951"}}, []api.Rat{"1"}, []api.Rat{"1/2305843009213693951"}},
		{[][]api.Rat{{"2305843009213693951", "0"}, {"5", "2305843009213693921"}}, []api.Rat{"2305843009213693951", "2305843009213693926"}, []api.Rat{"1", "1"}},
		{[][]api.Rat{{"1/2305843009213693951"}}, []api.Rat{"1"}, []api.Rat{"2305843009213693951"}},
		{[][]api.Rat{{"1"}}, []api.Rat{nines(600)}, []api.Rat{nines(600)}},
		{[][]api.Rat{{nines(600)}}, []api.Rat{"-1"}, []api.Rat{"-1/" + nines(600)}},
		{[][]api.Rat{{nines(600) + "/" + power(599)}}, []api.Rat{nines(600)}, []api.Rat{power(599)}},
	} {
		x, e := Solve(row.m, row.b)
		want(t, "Solve", x, row.x)
		want(t, "Solve", e, api.OK)
	}
}

// P1.4: the errors of equations, in their order.
func TestSolveErrors(t *testing.T) {
	wide := unit(25)
	wide[3] = nil
	for _, row := range []struct {
		what string
		m    [][]api.Rat
		b    []api.Rat
		e    api.Errno
	}{
		{"no equations", nil, nil, api.ErrEmpty},
		{"no equations, but a right side", [][]api.Rat{}, []api.Rat{""}, api.ErrEmpty},
		{"25 equations", unit(25), zeros(25), api.ErrMany},
		{"25 equations with wrong rows", wide, nil, api.ErrMany},
		{"a short row", [][]api.Rat{{"1", "1"}, {"2"}}, []api.Rat{"3", "6"}, api.ErrShape},
		{"a long row", [][]api.Rat{{"1", "1", ""}, {"2", "1"}}, []api.Rat{"3", "6"}, api.ErrShape},
		{"an empty row", [][]api.Rat{{}}, []api.Rat{"3"}, api.ErrShape},
		{"a wrong number ahead of a short row", [][]api.Rat{{"1", "2/4"}, {"2"}}, nil, api.ErrForm},
		{"a short row ahead of a wrong number", [][]api.Rat{{"1"}, {"2", "2/4"}}, nil, api.ErrShape},
		{"two wrong numbers", [][]api.Rat{{nines(601), ""}, {"2", "1"}}, nil, api.ErrLarge},
		{"two wrong numbers", [][]api.Rat{{"", nines(601)}, {"2", "1"}}, nil, api.ErrForm},
		{"no right sides", unit(2), nil, api.ErrShape},
		{"too many right sides", unit(2), []api.Rat{"1", "", "1"}, api.ErrShape},
		{"wrong right sides", unit(2), []api.Rat{"1", "1/1"}, api.ErrForm},
		{"wrong right sides", unit(2), []api.Rat{nines(601), ""}, api.ErrLarge},
		{"wrong right sides of singular equations", [][]api.Rat{{"1", "1"}, {"1", "1"}}, []api.Rat{"1", "x"}, api.ErrForm},
		{"many solutions", [][]api.Rat{{"1", "1"}, {"2", "2"}}, []api.Rat{"3", "6"}, api.ErrSingular},
		{"no solution", [][]api.Rat{{"1", "1"}, {"2", "2"}}, []api.Rat{"3", "7"}, api.ErrSingular},
		{"0 x = 0", [][]api.Rat{{"0"}}, []api.Rat{"0"}, api.ErrSingular},
		{"0 x = 1", [][]api.Rat{{"0"}}, []api.Rat{"1"}, api.ErrSingular},
		{"a column of 0", [][]api.Rat{{"0", "1"}, {"0", "2"}}, []api.Rat{nines(600), "1"}, api.ErrSingular},
		{"dependent rows", [][]api.Rat{{"1", "2", "3"}, {"4", "5", "6"}, {"7", "8", "9"}}, []api.Rat{"1", "2", "3"}, api.ErrSingular},
		{"dependent large rows", [][]api.Rat{{nines(600), "1/" + nines(600)}, {nines(600), "1/" + nines(600)}}, []api.Rat{"1", "1"}, api.ErrSingular},
		{"a numerator of 601 digits", [][]api.Rat{{"1/10"}}, []api.Rat{nines(600)}, api.ErrLarge},
		{"a numerator of 601 digits, 1 and zeros", [][]api.Rat{{"1/10"}}, []api.Rat{power(599)}, api.ErrLarge},
		{"a denominator of 601 digits", [][]api.Rat{{nines(600)}}, []api.Rat{"1/7"}, api.ErrLarge},
		{"a numerator of 1200 digits", [][]api.Rat{{"1/" + nines(600)}}, []api.Rat{nines(600)}, api.ErrLarge},
		{"one large number of two", [][]api.Rat{{"1", "0"}, {"0", "1/10"}}, []api.Rat{"1", power(599)}, api.ErrLarge},
	} {
		x, e := Solve(row.m, row.b)
		want(t, "Solve: "+row.what, e, row.e)
		want(t, "Solve: "+row.what, x, []api.Rat(nil))
	}
}

// P1.4: equations made for a solution are solved by it, however large the numbers on the way are.
func TestSolveRandom(t *testing.T) {
	r := rand.New(rand.NewSource(17))
	for i := range 120 {
		n, digits := 1+r.Intn(6), 40
		if i%40 == 0 {
			n, digits = 24, 15
		}
		x, m, b := []api.Rat{}, [][]api.Rat{}, []api.Rat{}
		for range n {
			x = append(x, textOf(randomRat(r, 200)))
		}
		for range n {
			row, sum := []api.Rat{}, new(big.Rat)
			for j := range n {
				a := randomRat(r, digits)
				row = append(row, textOf(a))
				sum.Add(sum, a.Mul(a, bigRat(t, x[j])))
			}
			if !fits(sum) {
				row, sum = zeros(n), bigRat(t, x[len(m)])
				row[len(m)] = "1"
			}
			m, b = append(m, row), append(b, textOf(sum))
		}
		got, e := Solve(m, b)
		if e == api.ErrSingular && plainRank(t, m) < n {
			continue
		}
		want(t, "Solve", got, x)
		want(t, "Solve", e, api.OK)
	}
}

// P1.4: just the singular ones of small matrices are singular.
func TestSolveSingular(t *testing.T) {
	r := rand.New(rand.NewSource(18))
	singular := 0
	for range 400 {
		n := 1 + r.Intn(4)
		m := unit(n)
		for i := range m {
			for j := range m[i] {
				m[i][j] = textOf(big.NewRat(int64(r.Intn(3)-1), int64(1+r.Intn(2))))
			}
		}
		_, e := Solve(m, zeros(n))
		want(t, "Solve", e == api.ErrSingular, plainRank(t, m) < n)
		if e == api.ErrSingular {
			singular++
		}
	}
	want(t, "some are singular, others are not", singular > 50 && singular < 350, true)
}

// plainRank returns the rank of a matrix.
func plainRank(t *testing.T, m [][]api.Rat) int {
	rows := [][]*big.Rat{}
	for _, row := range m {
		numbers := []*big.Rat{}
		for _, a := range row {
			numbers = append(numbers, bigRat(t, a))
		}
		rows = append(rows, numbers)
	}
	rank := 0
	for c := range m[0] {
		p := rank
		for p < len(rows) && rows[p][c].Sign() == 0 {
			p++
		}
		if p == len(rows) {
			continue
		}
		rows[p], rows[rank] = rows[rank], rows[p]
		for _, row := range rows[rank+1:] {
			factor := new(big.Rat).Quo(row[c], rows[rank][c])
			for j := range row {
				row[j] = new(big.Rat).Sub(row[j], new(big.Rat).Mul(factor, rows[rank][j]))
			}
		}
		rank++
	}
	return rank
}

// P1.4: the matrix of Hilbert, whose inverse has large integers.
func TestSolveHilbert(t *testing.T) {
	const n = 24
	m, b := [][]api.Rat{}, zeros(n)
	for i := range n {
		row := []api.Rat{}
		for j := range n {
			a, _ := Of(1, i+j+1)
			row = append(row, a)
		}
		m = append(m, row)
	}
	b[0] = "1"
	x, e := Solve(m, b)
	want(t, "Solve of Hilbert's matrix", e, api.OK)
	want(t, "the first number of the inverse", x[0], api.Rat("576"))
	for i, row := range m {
		sum := api.Rat("0")
		for j, a := range row {
			p, _ := Mul(a, x[j])
			sum, _ = Add(sum, p)
		}
		want(t, "a row of Hilbert's matrix", sum, b[i])
	}
}

// P1.4: 24 equations with 600 digits in each number, for which nothing on the way is small.
func TestSolveLargest(t *testing.T) {
	r := rand.New(rand.NewSource(19))
	limit := new(big.Int).Exp(big.NewInt(10), big.NewInt(600), nil)
	m := unit(MaxEquations)
	b := zeros(MaxEquations)
	for _, row := range append(m, b) {
		for j := range row {
			row[j] = api.Rat(new(big.Int).Rand(r, limit).String())
		}
	}
	x, e := Solve(m, b)
	want(t, "Solve of random equations", e, api.ErrLarge)
	want(t, "Solve of random equations", x, []api.Rat(nil))
	m[23] = m[0]
	_, e = Solve(m, b)
	want(t, "Solve with equal rows", e, api.ErrSingular)
}

// P1.4: what residues suggest is no solution before it is one of the equations themselves.
func TestSolves(t *testing.T) {
	integers := func(l ...int) []exact.Int {
		out := []exact.Int{}
		for _, n := range l {
			out = append(out, exact.Whole(n))
		}
		return out
	}
	half := exact.Quotient(exact.Whole(1), exact.Whole(2))
	two := exact.Integer(exact.Whole(2))
	rows := [][]exact.Int{integers(2, 1, 3), integers(4, -1, 0)}
	want(t, "solves", solves(rows, []exact.Rat{half, two}), true)
	want(t, "solves, but not the second row", solves(rows, []exact.Rat{two.Minus(half), two.Minus(two)}), false)
	want(t, "solves, but not the first row", solves(rows, []exact.Rat{two.Minus(two), two.Minus(two)}), false)
}

// The primes of elimination are primes, and none is left out.
func TestPrimes(t *testing.T) {
	count, wanted := 0, new(big.Int).SetUint64(firstPrime)
	for p := range primes() {
		for ; !wanted.ProbablyPrime(20); wanted.Sub(wanted, big.NewInt(2)) {
		}
		want(t, "a prime", p, wanted.Uint64())
		wanted.Sub(wanted, big.NewInt(2))
		if count++; count == 200 {
			break
		}
	}
	for n := uint64(3); n < 2000; n += 2 {
		want(t, "a small prime", isPrime(n), new(big.Int).SetUint64(n).ProbablyPrime(20))
	}
	// One of Carmichael's numbers, and one that passes the test with the first nine primes.
	want(t, "211 421 631", isPrime(56052361), false)
	want(t, "149491 747451 34233211", isPrime(3825123056546413051), false)
}
