package number

import (
	"crux/api"
	"crux/check"
	"crux/exact"
)

// CheckTable returns the first error of a table, or OK.
func CheckTable(t []api.Point) api.Errno {
	_, e := readTable(t)
	return e
}

// Value returns the value of a table.
func Value(t []api.Point, x api.Rat) (api.Rat, api.Errno) {
	table, first := readTable(t)
	at, second := read(x)
	if e := check.First(first, second); e != api.OK {
		return "", e
	}
	return write(exact.Value(table, at))
}

func readTable(t []api.Point) ([]exact.Point, api.Errno) {
	e := check.First(check.If(len(t) == 0, api.ErrEmpty), check.If(len(t) > api.MaxBreaks, api.ErrMany))
	if e != api.OK {
		return nil, e
	}
	table := []exact.Point{}
	for i, p := range t {
		x, y, e := readTwo(p.X, p.Y)
		if e != api.OK {
			return nil, e
		}
		if i > 0 && table[i-1].X.Compare(x) >= 0 {
			return nil, api.ErrOrder
		}
		table = append(table, exact.Point{X: x, Y: y})
	}
	return table, api.OK
}
