package rope_test

import (
	"math/big"
	"math/rand"
	"slices"
	"testing"

	"crux/api"
	"crux/rope"
)

// between returns a number of a span.
func between(r *rand.Rand, s api.Span) *big.Rat {
	low, high := bigRat(s.Low), bigRat(s.High)
	return plus(low, times(minus(high, low), big.NewRat(int64(r.Intn(5)), 4)))
}

// shortSpan returns a span of short numbers that are at most a greatest one.
func shortSpan(r *rand.Rand, greatest int) api.Span {
	low := 1 + r.Intn(greatest)
	high := low + r.Intn(greatest-low+1)
	return span(textOf(wholeRat(low)), textOf(wholeRat(high)))
}

func shortFall(r *rand.Rand) rope.Fall {
	return rope.Fall{Mass: shortSpan(r, 200), Modulus: shortSpan(r, 40000), Rope: 1 + r.Intn(20000), Above: r.Intn(4000), Slack: r.Intn(2) * r.Intn(500)}
}

// P4.5: the force for any mass and modulus within their spans is within the span of the force, and the stretch likewise.
func TestForcesWithinSpans(t *testing.T) {
	r := rand.New(rand.NewSource(6))
	for range 1000 {
		f := shortFall(r)
		force, _ := rope.Force(f)
		stretch, _ := rope.Stretch(f)
		inside := f
		inside.Mass, inside.Modulus = only(textOf(between(r, f.Mass))), only(textOf(between(r, f.Modulus)))
		w := wanted(inside, 0)
		for _, row := range []struct {
			name string
			s    api.Span
			ends [2]*big.Rat
			of   func(f rope.Fall) (api.Span, api.Errno)
		}{
			{"Force", force, w.force, rope.Force},
			{"Stretch", stretch, w.stretch, rope.Stretch},
		} {
			s, e := row.of(inside)
			want(t, row.name, e, api.OK)
			want(t, row.name+" of one mass and modulus", s, span(textOf(row.ends[0]), textOf(row.ends[1])))
			want(t, row.name+" is within the span", contains(row.s, bigRat(s.Low)) && contains(row.s, bigRat(s.High)), true)
		}
	}
}

// P4.5: a greater height never gives less force.
func TestGreaterHeights(t *testing.T) {
	r := rand.New(rand.NewSource(7))
	for range 300 {
		f := shortFall(r)
		before, _ := rope.Force(f)
		for range 10 {
			f.Above += r.Intn(3)
			force, e := rope.Force(f)
			want(t, "Force", e, api.OK)
			less := minus(bigRat(before.Low), bigRat(force.Low))
			want(t, "no less force at the lower end", less.Cmp(big.NewRat(1, 1000)) <= 0, true)
			less = minus(bigRat(before.High), bigRat(force.High))
			want(t, "no less force at the upper end", less.Cmp(big.NewRat(1, 1000)) <= 0, true)
			before = force
		}
	}
}

// P4.5: a line through one place more is no shorter, and its drag is at least 1.
func TestOnePlaceMore(t *testing.T) {
	r := rand.New(rand.NewSource(8))
	for range 1000 {
		l := randomLine(r, 2+r.Intn(5), []int{2, 20, 100000}[r.Intn(3)])
		at := r.Intn(len(l) + 1)
		more := slices.Insert(slices.Clone(l), at, randomPlace(r, 20))
		if at > 0 && at < len(l) && r.Intn(2) == 0 { // a place on the way, or nearly
			more[at] = place((l[at-1].X+l[at].X)/2, (l[at-1].Y+l[at].Y)/2, (l[at-1].Z+l[at].Z)/2)
		}
		if rope.CheckLine(more) != api.OK {
			continue
		}
		short, _ := rope.Length(l)
		long, e := rope.Length(more)
		want(t, "Length", e, api.OK)
		want(t, "no shorter", bigRat(long.High).Cmp(bigRat(short.High)) >= 0, true)
		drag, e := rope.Drag(more, randomFriction(r))
		want(t, "Drag", e, api.OK)
		want(t, "at least 1", bigRat(drag).Cmp(wholeRat(1)) >= 0, true)
	}
}

// P4.5: the forces of the strands and the load add up to 0, and an anchor that is turned by a quarter has the same tensions.
func TestTurnedAnchors(t *testing.T) {
	r := rand.New(rand.NewSource(9))
	quarters := []func(a api.Place) api.Place{
		func(a api.Place) api.Place { return place(-a.Y, a.X, a.Z) },
		func(a api.Place) api.Place { return place(a.X, -a.Z, a.Y) },
		func(a api.Place) api.Place { return place(a.Z, a.Y, -a.X) },
	}
	for range 1000 {
		a := rope.Anchor{Load: randomPlace(r, 20)}
		for range 1 + r.Intn(3) {
			a.Strands = append(a.Strands, randomPlace(r, 5))
		}
		turn := quarters[r.Intn(3)]
		turned := rope.Anchor{Load: turn(a.Load)}
		for _, s := range a.Strands {
			turned.Strands = append(turned.Strands, turn(s))
		}
		shares, e := rope.Shares(a)
		if e == api.OK {
			checkForces(t, a, shares)
		}
		tensions, e := rope.Tensions(a)
		same, f := rope.Tensions(turned)
		want(t, "the error", f, e)
		want(t, "the tensions", same, tensions)
	}
}

// P4.5: an act that is set aside can be left out, and a retired item stays retired.
func TestActsThatAreSetAside(t *testing.T) {
	r := rand.New(rand.NewSource(10))
	statuses := func(rules []rope.Rule, l []rope.Act, day int) []string {
		var all []string
		for _, item := range []string{"a", "b", "c", "d"} {
			status, _ := rope.Status(rules, l, item, day)
			all = append(all, status)
		}
		return all
	}
	for range 300 {
		rules := randomRules(r)
		l := randomActs(r, rules)
		aside, e := rope.Aside(rules, l)
		want(t, "Aside", e, api.OK)
		rest := slices.Clone(l)
		if len(aside) > 0 {
			at := aside[r.Intn(len(aside))]
			rest = slices.Delete(rest, at, at+1)
			fewer, _ := rope.Aside(rules, rest)
			want(t, "one less is set aside", len(fewer), len(aside)-1)
		}
		before := make([]string, 4)
		for day := range 110 {
			now := statuses(rules, l, day)
			want(t, "without an act that is set aside", statuses(rules, rest, day), now)
			for i, status := range now {
				want(t, "a retired item", before[i] == "retired" && status != "retired", false)
			}
			before = now
		}
	}
}
