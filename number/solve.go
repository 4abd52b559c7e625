package number

import (
	"crux/api"
	"crux/check"
	"crux/exact"
)

// MaxEquations is the greatest number of equations.
const MaxEquations = 24

// Solve returns the only solution of equations.
func Solve(m [][]api.Rat, b []api.Rat) ([]api.Rat, api.Errno) {
	rows, e := readEquations(m, b)
	if e != api.OK {
		return nil, e
	}
	whole := [][]exact.Int{}
	for _, row := range rows {
		whole = append(whole, cleared(row))
	}
	inverse, ok := invert(whole)
	if !ok {
		return nil, api.ErrSingular
	}
	x, ok := lift(whole, inverse)
	if !ok {
		return nil, api.ErrLarge
	}
	return writeList(x)
}

// readEquations returns the rows of the matrix, each one with its number of b behind it.
func readEquations(m [][]api.Rat, b []api.Rat) ([][]exact.Rat, api.Errno) {
	e := check.First(check.If(len(m) == 0, api.ErrEmpty), check.If(len(m) > MaxEquations, api.ErrMany))
	if e != api.OK {
		return nil, e
	}
	rows := [][]exact.Rat{}
	for _, texts := range m {
		row, e := readList(texts, len(m))
		if e != api.OK {
			return nil, e
		}
		rows = append(rows, row)
	}
	column, e := readList(b, len(m))
	if e != api.OK {
		return nil, e
	}
	for i, x := range column {
		rows[i] = append(rows[i], x)
	}
	return rows, api.OK
}

// readList returns n numbers, or ErrShape if there are not n, or the error of the first one with one.
func readList(texts []api.Rat, n int) ([]exact.Rat, api.Errno) {
	if len(texts) != n {
		return nil, api.ErrShape
	}
	list := []exact.Rat{}
	for _, text := range texts {
		x, e := read(text)
		if e != api.OK {
			return nil, e
		}
		list = append(list, x)
	}
	return list, api.OK
}

func writeList(list []exact.Rat) ([]api.Rat, api.Errno) {
	texts := []api.Rat{}
	for _, x := range list {
		text, e := write(x)
		if e != api.OK {
			return nil, e
		}
		texts = append(texts, text)
	}
	return texts, api.OK
}

// cleared returns numbers times their least common denominator.
func cleared(l []exact.Rat) []exact.Int {
	common := commonDenominator(l)
	whole := []exact.Int{}
	for _, x := range l {
		factor, _ := common.Over(x.Den())
		whole = append(whole, x.Num().Times(factor))
	}
	return whole
}

func commonDenominator(l []exact.Rat) exact.Int {
	common := exact.Whole(1)
	for _, x := range l {
		factor, _ := x.Den().Over(common.Divisor(x.Den()))
		common = common.Times(factor)
	}
	return common
}

// bound returns a number of bits that neither the determinant of equations has more than, nor one in which the right side stands for a column: that of the product of the sums of the rows without their signs. By Cramer's rule it holds for the numerators and denominators of the solution, too.
func bound(rows [][]exact.Int) int {
	total := 0
	for _, row := range rows {
		sum := exact.Whole(0)
		for _, x := range row {
			sum = sum.Plus(x.Size())
		}
		total += sum.Bits()
	}
	return total
}
