package rope_test

import (
	"math"
	"math/big"
	"math/rand"
	"slices"
	"testing"

	"crux/api"
	"crux/rope"
)

// anchor returns an anchor with a load.
func anchor(load api.Place, strands ...api.Place) rope.Anchor {
	return rope.Anchor{Strands: strands, Load: load}
}

// vee is the anchor of the chapter's example.
func vee(load api.Place) rope.Anchor {
	return anchor(load, place(-300, 0, 400), place(300, 0, 400))
}

type wrongAnchor struct {
	name string
	a    rope.Anchor
	e    api.Errno
}

func wrongAnchors() []wrongAnchor {
	down, up := place(0, 0, -800), place(0, 0, 400)
	l := []wrongAnchor{
		{"no strand", anchor(down), api.ErrShape},
		{"nothing", rope.Anchor{}, api.ErrShape},
		{"four strands", anchor(down, up, up, up, up), api.ErrShape},
		{"four strands of nothing", anchor(down, make([]api.Place, 4)...), api.ErrShape},
		{"a strand of 0", anchor(down, api.Place{}), api.ErrZero},
		{"a strand of 0 behind another one", anchor(down, up, api.Place{}), api.ErrZero},
		{"a strand of 0 ahead of one far away", anchor(down, api.Place{}, place(0, 0, 100001)), api.ErrZero},
		{"a strand far away ahead of one of 0", anchor(down, place(0, 0, 100001), api.Place{}), api.ErrRange},
		{"a strand of 0 ahead of a load far away", anchor(place(1000001, 0, 0), api.Place{}), api.ErrZero},
		{"a strand far away ahead of no load", anchor(api.Place{}, up, place(0, -100001, 0)), api.ErrRange},
		{"no load", anchor(api.Place{}, up), api.ErrZero},
		{"no load of strands that are not independent", anchor(api.Place{}, up, up), api.ErrZero},
		{"a load too far away, of such strands", anchor(place(0, 0, -1000001), up, up), api.ErrRange},
	}
	for _, n := range []int{100001, -100001, math.MaxInt, math.MinInt} {
		l = append(l,
			wrongAnchor{"X of a strand", anchor(down, up, place(n, 0, 0)), api.ErrRange},
			wrongAnchor{"Y of a strand", anchor(down, place(0, n, 0), up), api.ErrRange},
			wrongAnchor{"Z of a strand", anchor(down, up, up, place(0, 0, n)), api.ErrRange},
		)
	}
	for _, n := range []int{1000001, -1000001, math.MaxInt, math.MinInt} {
		l = append(l,
			wrongAnchor{"X of a load", anchor(place(n, 0, 0), up), api.ErrRange},
			wrongAnchor{"Y of a load", anchor(place(0, n, 0), up), api.ErrRange},
			wrongAnchor{"Z of a load", anchor(place(0, 0, n), up), api.ErrRange},
		)
	}
	return l
}

// wrongShares are anchors without shares.
func wrongShares() []wrongAnchor {
	return []wrongAnchor{
		{"a load upwards", vee(place(0, 0, 800)), api.ErrRule},
		{"a load aside", vee(place(0, 1, 0)), api.ErrInfeasible},
		{"a load upwards and aside", vee(place(0, 1, 800)), api.ErrInfeasible},
		{"two in line", anchor(place(0, 0, -800), place(1, 0, 0), place(2, 0, 0)), api.ErrSingular},
		{"two in line, of which one could hold the load", anchor(place(-2, 0, 0), place(1, 0, 0), place(2, 0, 0)), api.ErrSingular},
		{"two against each other", anchor(place(-2, 0, 0), place(1, 0, 0), place(-1, 0, 0)), api.ErrSingular},
		{"twice the same one", anchor(place(-2, 0, 0), place(1, 0, 0), place(1, 0, 0)), api.ErrSingular},
		{"three in a plane", anchor(place(0, 0, -800), place(1, 0, 1), place(0, 0, 1), place(-1, 0, 1)), api.ErrSingular},
		{"three in a plane, with a load aside", anchor(place(0, 9, 0), place(1, 0, 1), place(0, 0, 1), place(-1, 0, 1)), api.ErrSingular},
		{"three of which two are in line", anchor(place(0, 0, -800), place(1, 0, 1), place(0, 1, 0), place(-2, 0, -2)), api.ErrSingular},
		{"one that would push", anchor(place(0, 0, 800), place(0, 0, 400)), api.ErrRule},
		{"one with a load aside", anchor(place(1, 0, -800), place(0, 0, 400)), api.ErrInfeasible},
		{"one with a load at a right angle", anchor(place(1, 0, 0), place(0, 0, 400)), api.ErrInfeasible},
		{"two of which one would push", anchor(place(-600, 0, -1), place(300, 0, 400), place(600, 0, 300)), api.ErrRule},
		{"the last one of three would push", anchor(place(-1, -1, 1), place(1, 0, 0), place(0, 1, 0), place(0, 0, 1)), api.ErrRule},
		{"nearly in line", anchor(place(0, 0, -1), place(100000, 99999, 0), place(99999, 99998, 0)), api.ErrInfeasible},
	}
}

// P4.3: the errors of anchors and of their shares, in their order, beside zero values and ahead of those of limits.
func TestWrongAnchors(t *testing.T) {
	for _, row := range wrongAnchors() {
		want(t, row.name, rope.CheckAnchor(row.a), row.e)
	}
	for _, row := range wrongShares() {
		want(t, row.name, rope.CheckAnchor(row.a), api.OK)
	}
	for _, row := range slices.Concat(wrongAnchors(), wrongShares()) {
		shares, e := rope.Shares(row.a)
		want(t, row.name+": Shares", []any{len(shares), e}, []any{0, row.e})
		tensions, e := rope.Tensions(row.a)
		want(t, row.name+": Tensions", []any{len(tensions), e}, []any{0, row.e})
		for _, limits := range [][]int{nil, {0}, {1}, {500, 500}, {1, 1, 1}} {
			n, e := rope.Holds(row.a, limits)
			want(t, row.name+": Holds", []any{n, e}, []any{0, row.e})
		}
	}
}

// P4.3: Shares and Tensions.
func TestShares(t *testing.T) {
	for _, row := range []struct {
		name     string
		a        rope.Anchor
		shares   []api.Rat
		tensions []api.Span
	}{
		{"of the chapter", vee(place(0, 0, -800)), []api.Rat{"1", "1"}, []api.Span{only("500"), only("500")}},
		{"one strand", anchor(place(0, 0, -800), place(0, 0, 400)), []api.Rat{"2"}, []api.Span{only("800")}},
		{"one strand that is not straight up", anchor(place(-1, -2, -2), place(300, 600, 600)), []api.Rat{"1/300"}, []api.Span{only("3")}},
		{"one long strand of a small load", anchor(place(0, 1, 0), place(0, -100000, 0)), []api.Rat{"1/100000"}, []api.Span{only("1")}},
		{"one strand whose length is no number", anchor(place(-5, -5, 0), place(1, 1, 0)), []api.Rat{"5"}, []api.Span{span("7071/1000", "884/125")}},
		{"a strand that has nothing", vee(place(300, 0, -400)), []api.Rat{"1", "0"}, []api.Span{only("500"), only("0")}},
		{"the other one", vee(place(-300, 0, -400)), []api.Rat{"0", "1"}, []api.Span{only("0"), only("500")}},
		{"two strands that are not even", anchor(place(0, 0, -700), place(-300, 0, 400), place(400, 0, 300)), []api.Rat{"28/25", "21/25"}, []api.Span{only("560"), only("420")}},
		{"two strands that hold a load aside", anchor(place(-3, -4, 0), place(1, 0, 0), place(0, 1, 0)), []api.Rat{"3", "4"}, []api.Span{only("3"), only("4")}},
		{"three strands", anchor(place(-1, -2, -3), place(1, 0, 0), place(0, 1, 0), place(0, 0, 1)), []api.Rat{"1", "2", "3"}, []api.Span{only("1"), only("2"), only("3")}},
		{"three strands, one of which has nothing", anchor(place(0, -2, -3), place(1, 0, 0), place(0, 1, 0), place(0, 0, 1)), []api.Rat{"0", "2", "3"}, []api.Span{only("0"), only("2"), only("3")}},
		{"a tripod", anchor(place(0, 0, -1200), place(-300, -300, 400), place(300, -300, 400), place(0, 600, 400)), []api.Rat{"1", "1", "1"}, []api.Span{span("116619/200", "72887/125"), span("116619/200", "72887/125"), span("72111/100", "721111/1000")}},
	} {
		shares, e := rope.Shares(row.a)
		want(t, row.name, e, api.OK)
		want(t, row.name, shares, row.shares)
		tensions, e := rope.Tensions(row.a)
		want(t, row.name, e, api.OK)
		want(t, row.name, tensions, row.tensions)
	}
}

// P4.3: Holds.
func TestHolds(t *testing.T) {
	down := vee(place(0, 0, -800))
	diagonal := anchor(place(-5, -5, 0), place(1, 1, 0)) // 7.071 to 7.072
	aside := anchor(place(-3, -4, 0), place(1, 0, 0), place(0, 1, 0))
	three := anchor(place(-1, -2, -3), place(1, 0, 0), place(0, 1, 0), place(0, 0, 1))
	for _, row := range []struct {
		name   string
		a      rope.Anchor
		limits []int
		n      int
		e      api.Errno
	}{
		{"at the limits", down, []int{500, 500}, 0, api.OK},
		{"of the chapter", down, []int{500, 499}, 1, api.ErrUnsafe},
		{"the first one", down, []int{499, 500}, 0, api.ErrUnsafe},
		{"both", down, []int{499, 499}, 0, api.ErrUnsafe},
		{"the greatest limits", down, []int{1000000, 1000000}, 0, api.OK},
		{"the least limits", aside, []int{1, 1}, 0, api.ErrUnsafe},
		{"the first limit stays, the second one does not", aside, []int{3, 3}, 1, api.ErrUnsafe},
		{"the limits of the other strands", aside, []int{4, 3}, 1, api.ErrUnsafe},
		{"three", three, []int{1, 2, 3}, 0, api.OK},
		{"the last one of three", three, []int{1, 2, 2}, 2, api.ErrUnsafe},
		{"the last two of three", three, []int{1, 1, 1}, 1, api.ErrUnsafe},
		{"above the root", diagonal, []int{8}, 0, api.OK},
		{"below the root", diagonal, []int{7}, 0, api.ErrUnsafe},
		{"no limits", down, nil, 0, api.ErrShape},
		{"one limit", down, []int{500}, 0, api.ErrShape},
		{"three limits", down, []int{500, 500, 500}, 0, api.ErrShape},
		{"three limits of 0", down, []int{0, 0, 0}, 0, api.ErrShape},
		{"a limit of 0", down, []int{500, 0}, 0, api.ErrRange},
		{"a limit of 0 behind one that is too low", down, []int{1, 0}, 0, api.ErrRange},
		{"a negative limit", down, []int{-500, 500}, 0, api.ErrRange},
		{"a limit that is too great", down, []int{500, 1000001}, 0, api.ErrRange},
		{"the last number", down, []int{math.MaxInt, 500}, 0, api.ErrRange},
		{"the first number", down, []int{math.MinInt, 500}, 0, api.ErrRange},
	} {
		n, e := rope.Holds(row.a, row.limits)
		want(t, row.name, []any{n, e}, []any{row.n, row.e})
	}
}

// P4.3: the upper end of the tension decides, not the root.
func TestHoldsAtTheEndsOfRoots(t *testing.T) {
	for x := 501; x < 3000; x++ {
		// The root of x x + 1 is less than 1/1000 above x, so that its lower end is x.
		n, e := rope.Holds(anchor(place(-x, -1, 0), place(x, 1, 0)), []int{x})
		want(t, "the lower end is the limit", []any{n, e}, []any{0, api.ErrUnsafe})
	}
	// The root of 1001 1001 - 1 is less than 1/1000 below 1001, so that its upper end is 1001.
	below := place(1000, 8, 44)
	n, e := rope.Holds(anchor(place(-below.X, -below.Y, -below.Z), below), []int{1001})
	want(t, "the upper end is the limit", []any{n, e}, []any{0, api.OK})
}

// tensions goes through the ends of the tensions of an anchor.
func tensions(t *testing.T, a rope.Anchor) func(yield func(low, high *big.Rat) bool) {
	l, e := rope.Tensions(a)
	want(t, "Tensions", e, api.OK)
	return func(yield func(low, high *big.Rat) bool) {
		for _, s := range l {
			if !yield(bigRat(s.Low), bigRat(s.High)) {
				return
			}
		}
	}
}

// P4.3: strands and loads as large as they can be.
func TestLargestAnchors(t *testing.T) {
	n, m := 100000, 1000000
	for name, a := range map[string]rope.Anchor{
		"one":   anchor(place(-m, m, -m), place(n, -n, n)),
		"two":   anchor(place(-m, m, -m), place(n, -n, 99999), place(99999, -99999, n)),
		"three": anchor(place(-m, -m, -m), place(n, n, 99999), place(n, 99998, n), place(99997, n, n)),
		"small": anchor(place(-1, -1, -1), place(n, n, 99999), place(n, 99999, n), place(99999, n, n)),
	} {
		shares, e := rope.Shares(a)
		want(t, name, e, api.OK)
		checkForces(t, a, shares)
	}
}

// checkForces looks whether the forces of the strands and the load add up to 0.
func checkForces(t *testing.T, a rope.Anchor, shares []api.Rat) {
	t.Helper()
	want(t, "a share for each strand", len(shares), len(a.Strands))
	for _, axis := range []func(a api.Place) int{
		func(a api.Place) int { return a.X },
		func(a api.Place) int { return a.Y },
		func(a api.Place) int { return a.Z },
	} {
		total := wholeRat(axis(a.Load))
		for i, s := range shares {
			total = plus(total, times(bigRat(s), wholeRat(axis(a.Strands[i]))))
		}
		want(t, "the forces", total.RatString(), "0")
	}
}

// P4.3: anchors at random, whose shares are known if the strands are independent.
func TestAnchorsAtRandom(t *testing.T) {
	r := rand.New(rand.NewSource(4))
	counts := map[api.Errno]int{}
	for range 4000 {
		wanted := make([]int, 1+r.Intn(3))
		for i := range wanted {
			wanted[i] = r.Intn(12) - 1
		}
		if slices.Max(wanted) == 0 {
			wanted[0] = 1 // a load is not 0
		}
		a := randomAnchor(r, []int{2, 100, 20000}[r.Intn(3)], wanted...)
		leaves := r.Intn(4) == 0
		if leaves {
			a.Load.X++
		}
		if rope.CheckAnchor(a) != api.OK {
			continue
		}
		given := slices.Clone(a.Strands)
		shares, e := rope.Shares(a)
		counts[e]++
		want(t, "the argument stays", a.Strands, given)
		switch {
		case !independent(a.Strands):
			want(t, "dependent strands", e, api.ErrSingular)
		case !leaves && slices.Min(wanted) < 0:
			want(t, "a strand that pushes", e, api.ErrRule)
		case !leaves:
			var l []api.Rat
			for _, n := range wanted {
				l = append(l, textOf(wholeRat(n)))
			}
			want(t, "Shares", e, api.OK)
			want(t, "Shares", shares, l)
		case len(wanted) == 3:
			want(t, "three independent strands", e == api.OK || e == api.ErrRule, true)
		default: // the change of the load is in the space of the strands, or not
			along := independent(append(slices.Clone(a.Strands), place(1, 0, 0)))
			want(t, "a load that leaves the strands", e == api.ErrInfeasible, along)
		}
		if e == api.OK {
			checkForces(t, a, shares)
			checkTensions(t, a, shares)
		}
	}
	for _, e := range []api.Errno{api.OK, api.ErrSingular, api.ErrInfeasible, api.ErrRule} {
		want(t, "results of all kinds", counts[e] > 50, true)
	}
}

// checkTensions compares the tensions with those of the shares, and Holds with them.
func checkTensions(t *testing.T, a rope.Anchor, shares []api.Rat) {
	t.Helper()
	var limits []int
	i := 0
	for low, high := range tensions(t, a) {
		s, share := a.Strands[i], bigRat(shares[i])
		down, up := root(times(share, share, wholeRat(s.X*s.X+s.Y*s.Y+s.Z*s.Z)))
		want(t, "a tension", []string{low.RatString(), high.RatString()}, []string{down.RatString(), up.RatString()})
		limit := new(big.Int).Quo(high.Num(), high.Denom()).Int64() + 1
		limits = append(limits, int(limit))
		i++
	}
	if slices.Max(limits) > rope.MaxForce {
		return
	}
	n, e := rope.Holds(a, limits)
	want(t, "Holds", []any{n, e}, []any{0, api.OK})
	for i := len(limits) - 1; i >= 0; i-- {
		if limits[i] > 1 {
			limits[i]--
			high := bigRat(first(rope.Tensions(a))[i].High)
			n, e := rope.Holds(a, limits)
			if high.Cmp(wholeRat(limits[i])) > 0 {
				want(t, "Holds with a lower limit", []any{n, e}, []any{i, api.ErrUnsafe})
			}
		}
	}
}

func first[T any](x T, _ api.Errno) T {
	return x
}

// independent reports whether up to three strands are linearly independent.
func independent(l []api.Place) bool {
	cross := func(a, b api.Place) [3]*big.Int {
		minor := func(a, b, c, d int) *big.Int { return big.NewInt(int64(a*d - b*c)) }
		return [3]*big.Int{minor(a.Y, a.Z, b.Y, b.Z), minor(a.Z, a.X, b.Z, b.X), minor(a.X, a.Y, b.X, b.Y)}
	}
	switch len(l) {
	case 1:
		return l[0] != api.Place{}
	case 2:
		c := cross(l[0], l[1])
		return c[0].Sign() != 0 || c[1].Sign() != 0 || c[2].Sign() != 0
	}
	c := cross(l[0], l[1])
	sum := new(big.Int)
	for i, n := range []int{l[2].X, l[2].Y, l[2].Z} {
		sum.Add(sum, new(big.Int).Mul(c[i], big.NewInt(int64(n))))
	}
	return sum.Sign() != 0
}
