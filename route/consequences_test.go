package route

import (
	"math/rand"
	"slices"
	"testing"

	"crux/api"
)

// P3.8: a greater reach never loses a hold, and never makes the least way longer.
func TestGreaterReach(t *testing.T) {
	r := rand.New(rand.NewSource(13))
	for range 100 {
		route := randomRoute(r, 1+r.Intn(8), 10)
		var held []int
		moves := -1
		for reach := 1; reach < 40; reach++ {
			more, e := Held(route, reach)
			if e == api.ErrState {
				want(t, "no start any more", len(held), 0)
				continue
			}
			for _, n := range held {
				want(t, "a hold stays", slices.Contains(more, n), true)
			}
			held = more
			way, e := Way(route, reach)
			if moves >= 0 {
				want(t, "a way stays, and is no longer", e == api.OK && len(way) <= moves, true)
			}
			if e == api.OK {
				moves = len(way)
			}
		}
		want(t, "all holds with a reach over everything", held, numbers(len(route.Holds)))
	}
}

// P3.8: the potentials prove the least way, and one more at the start is no proof.
func TestPotentialsProve(t *testing.T) {
	r := rand.New(rand.NewSource(14))
	for range 300 {
		route := randomRoute(r, 1+r.Intn(10), 10)
		reach := 5 + r.Intn(25)
		p, e := Potentials(route, reach)
		if e != api.OK {
			continue
		}
		proved, e := CheckPotentials(route, reach, p)
		want(t, "CheckPotentials", e, api.OK)
		way, e := Way(route, reach)
		if e == api.ErrReach {
			want(t, "no way", proved, -1)
			continue
		}
		want(t, "the least way", proved, len(way))
		want(t, "CheckWay", CheckWay(route, reach, way), api.OK)
		p[route.Left][route.Right]++
		_, e = CheckPotentials(route, reach, p)
		want(t, "more than the least way", e, api.ErrProof)
	}
}

// P3.8: moving and mirroring a route changes no way.
func TestChangesKeepWays(t *testing.T) {
	r := rand.New(rand.NewSource(15))
	for range 200 {
		route := randomRoute(r, 1+r.Intn(8), 10)
		reach := 5 + r.Intn(20)
		moved, e := Moved(route, randomPlace(r, 90000))
		want(t, "Moved", e, api.OK)
		mirrored, e := Mirrored(route)
		want(t, "Mirrored", e, api.OK)
		for _, other := range []Route{moved, mirrored} {
			want(t, "CheckRoute", CheckRoute(other), api.OK)
			way, e := Way(route, reach)
			same, f := Way(other, reach)
			want(t, "Way", same, way)
			want(t, "Way", f, e)
			p, _ := Potentials(route, reach)
			q, _ := Potentials(other, reach)
			want(t, "Potentials", q, p)
			n, name, e := Compare(route, other)
			want(t, "Compare", []any{n, name, e}, []any{0, "", api.OK})
		}
		back, _ := Mirrored(mirrored)
		want(t, "two mirrors", back, route)
	}
}

// P3.8: each prefix of a least way is a least way to its state.
func TestPrefixes(t *testing.T) {
	r := rand.New(rand.NewSource(16))
	for range 200 {
		route := randomRoute(r, 2+r.Intn(7), 10)
		reach := 8 + r.Intn(20)
		way, e := Way(route, reach)
		if e != api.OK {
			continue
		}
		steps := map[State]int{{route.Left, route.Right}: 0}
		states := []State{{route.Left, route.Right}}
		for i := 0; i < len(states); i++ {
			_, after := legalMoves(route, reach, states[i])
			for _, s := range after {
				if _, known := steps[s]; !known {
					steps[s] = steps[states[i]] + 1
					states = append(states, s)
				}
			}
		}
		for n := range len(way) + 1 {
			climb, e := Attempt(route, reach, way[:n])
			want(t, "Attempt", []any{climb.Moves, climb.Top, e}, []any{n, n == len(way), api.OK})
			want(t, "a least way", steps[climb.State], n)
		}
	}
}

// P3.8: the cost of a change is the same in the other direction, and no change over a third setting costs less.
func TestCosts(t *testing.T) {
	r := rand.New(rand.NewSource(17))
	for range 300 {
		size, shapes := []int{3, 30, 100000}[r.Intn(3)], 1+r.Intn(3)
		some := func() []Bolt { return randomSetting(r, r.Intn(10), size, shapes) }
		a, b, c := some(), some(), some()
		store := []int{0, 5, 40, 200000}[r.Intn(4)]
		there, _ := Cost(a, b, store)
		back, _ := Cost(b, a, store)
		want(t, "in the other direction", back, there)
		further, _ := Cost(b, c, store)
		direct, _ := Cost(a, c, store)
		want(t, "over a third setting", direct <= there+further, true)
		none, _ := Cost(a, a, store)
		want(t, "to itself", none, 0)
	}
}

// P3.8: prices never prove more than a change costs.
func TestPricesProveNoMore(t *testing.T) {
	r := rand.New(rand.NewSource(18))
	for range 300 {
		a := randomSetting(r, 1+r.Intn(8), 5, 2)
		b := randomSetting(r, 1+r.Intn(8), 5, 2)
		store := r.Intn(20)
		p, q, _ := Prices(a, b, store)
		for i := range p {
			p[i]++
			_, e := CheckPrices(a, b, store, p, q)
			want(t, "one more", e, api.ErrProof)
			p[i]--
		}
		proved, _ := CheckPrices(a, b, store, p, q)
		// Any change: the first bolts of both settings are in one step if they can be.
		var plan []Step
		for n := range max(len(a), len(b)) {
			switch {
			case n < len(a) && n < len(b) && a[n].Shape == b[n].Shape:
				plan = append(plan, Step{n, n})
			default:
				if n < len(a) {
					plan = append(plan, Step{n, -1})
				}
				if n < len(b) {
					plan = append(plan, Step{-1, n})
				}
			}
		}
		cost, e := CheckPlan(a, b, store, plan)
		want(t, "CheckPlan", e, api.OK)
		want(t, "no more than it costs", proved <= cost, true)
	}
}
