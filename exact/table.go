package exact

// Point is a breakpoint of a table.
type Point struct {
	X Rat
	Y Rat
}

// Value returns the value at x of a table, which has breakpoints with ascending X.
func Value(t []Point, x Rat) Rat {
	before := t[0]
	for _, p := range t {
		if x.Compare(p.X) <= 0 {
			return between(before, p, x)
		}
		before = p
	}
	return before.Y
}

// between returns the value at x, at most that of q, on the straight line from p to q. In front of the table both are the first breakpoint.
func between(p, q Point, x Rat) Rat {
	width := q.X.Minus(p.X)
	if width.Sign() == 0 {
		return q.Y
	}
	slope := q.Y.Minus(p.Y).Over(width)
	return p.Y.Plus(slope.Times(x.Minus(p.X)))
}
