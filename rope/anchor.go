package rope

import (
	"slices"
	"strconv"

	"crux/api"
	"crux/check"
	"crux/exact"
	"crux/number"
	"crux/space"
)

// CheckAnchor returns the first error of an anchor, or OK.
func CheckAnchor(a Anchor) api.Errno {
	if len(a.Strands) < 1 || len(a.Strands) > MaxStrand {
		return api.ErrShape
	}
	strands := check.Each(a.Strands, func(_ int, s api.Place) api.Errno {
		return check.First(check.Places(s), checkNotZero(s))
	})
	return check.First(
		strands,
		check.Range(a.Load.X, -MaxForce, MaxForce),
		check.Range(a.Load.Y, -MaxForce, MaxForce),
		check.Range(a.Load.Z, -MaxForce, MaxForce),
		checkNotZero(a.Load),
	)
}

// Shares returns the shares of the strands.
func Shares(a Anchor) ([]api.Rat, api.Errno) {
	shares, e := a.shares()
	if e != api.OK {
		return nil, e
	}
	return writeAll(shares, write)
}

// Tensions returns the spans of the tensions of the strands.
func Tensions(a Anchor) ([]api.Span, api.Errno) {
	shares, e := a.shares()
	if e != api.OK {
		return nil, e
	}
	return writeAll(a.tensions(shares), writeSpan)
}

// Holds returns OK for an anchor whose strands all stay within their limits.
func Holds(a Anchor, limits []int) (int, api.Errno) {
	shares, e := a.shares()
	e = check.First(
		e,
		check.If(len(limits) != len(a.Strands), api.ErrShape),
		check.Each(limits, func(_, limit int) api.Errno { return check.Range(limit, 1, MaxForce) }),
	)
	if e != api.OK {
		return 0, e
	}
	return check.Find(a.tensions(shares), func(i int, tension exact.Span) api.Errno {
		return check.If(tension.High.Compare(whole(limits[i])) > 0, api.ErrUnsafe)
	})
}

func checkNotZero(a api.Place) api.Errno {
	return check.If(space.Of(a) == space.Vector{}, api.ErrZero)
}

// shares returns the shares of an anchor, or its error, or theirs.
func (a Anchor) shares() ([]exact.Rat, api.Errno) {
	if e := CheckAnchor(a); e != api.OK {
		return nil, e
	}
	texts, e := a.solve()
	var shares []exact.Rat
	for _, text := range texts {
		shares = append(shares, exact.ParseRat(string(text)))
	}
	pushes := slices.ContainsFunc(shares, func(s exact.Rat) bool { return s.Sign() < 0 })
	e = check.First(
		e,
		check.If(!a.isBalanced(shares), api.ErrInfeasible),
		check.If(pushes, api.ErrRule),
	)
	return shares, e
}

// solve returns the numbers, one for each strand, for which the sum of these times the strands comes next to the opposite of the load. It multiplies the equations of the shares, of which there are three for any number of strands, by each of the strands: there is just one solution if the strands are independent, and it is the shares if there are any.
func (a Anchor) solve() ([]api.Rat, api.Errno) {
	var rows [][]api.Rat
	var sides []api.Rat
	for _, s := range a.Strands {
		var row []api.Rat
		for _, t := range a.Strands {
			row = append(row, dotText(s, t))
		}
		rows = append(rows, row)
		sides = append(sides, dotText(s, space.Of(a.Load).Times(-1).Place()))
	}
	return number.Solve(rows, sides)
}

// isBalanced reports whether the forces of the strands and the load add up to 0.
func (a Anchor) isBalanced(shares []exact.Rat) bool {
	load := space.Of(a.Load)
	for axis := range space.Axes {
		total := whole(load[axis])
		for i, share := range shares {
			strand := space.Of(a.Strands[i])
			total = total.Plus(share.Times(whole(strand[axis])))
		}
		if total.Sign() != 0 {
			return false
		}
	}
	return true
}

func (a Anchor) tensions(shares []exact.Rat) []exact.Span {
	var tensions []exact.Span
	for i, share := range shares {
		square := whole(space.Square(api.Place{}, a.Strands[i]))
		tensions = append(tensions, exact.Root(share.Times(share).Times(square)))
	}
	return tensions
}

// dotText returns the text of the scalar product of two vectors.
func dotText(a, b api.Place) api.Rat {
	return api.Rat(strconv.Itoa(space.Of(a).Dot(space.Of(b))))
}
