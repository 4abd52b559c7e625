package number

import (
	"crux/api"
	"crux/check"
	"crux/exact"
)

// point is a breakpoint in exact numbers.
type point struct {
	x exact.Rat
	y exact.Rat
}

// CheckTable returns the first error of a table, or OK.
func CheckTable(t []api.Point) api.Errno {
	_, e := readTable(t)
	return e
}

// Value returns the value of a table.
func Value(t []api.Point, x api.Rat) (api.Rat, api.Errno) {
	table, first := readTable(t)
	at, second := read(x)
	if e := check.First(first, second); e != api.OK {
		return "", e
	}
	return write(valueAt(table, at))
}

// valueAt returns the value of a table, which is not empty.
func valueAt(t []point, x exact.Rat) exact.Rat {
	before := t[0]
	for _, p := range t {
		if x.Compare(p.x) <= 0 {
			return between(before, p, x)
		}
		before = p
	}
	return before.y
}

// between returns the value at x, at most that of q, on the straight line from p to q. In front of the table both are the first breakpoint.
func between(p, q point, x exact.Rat) exact.Rat {
	width := q.x.Minus(p.x)
	if width.Sign() == 0 {
		return q.y
	}
	slope := q.y.Minus(p.y).Over(width)
	return p.y.Plus(slope.Times(x.Minus(p.x)))
}

func readTable(t []api.Point) ([]point, api.Errno) {
	e := check.First(check.If(len(t) == 0, api.ErrEmpty), check.If(len(t) > api.MaxBreaks, api.ErrMany))
	if e != api.OK {
		return nil, e
	}
	table := []point{}
	for i, p := range t {
		x, y, e := readTwo(p.X, p.Y)
		if e != api.OK {
			return nil, e
		}
		if i > 0 && table[i-1].x.Compare(x) >= 0 {
			return nil, api.ErrOrder
		}
		table = append(table, point{x, y})
	}
	return table, api.OK
}
