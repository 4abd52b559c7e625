package start_test

import (
	"math/bits"
	"slices"
	"strconv"
	"testing"

	"crux/api"
	"crux/start"
)

// P6.6: no start list has fewer neighbours of one nation than Fewest says.
func TestNoFewerNeighbours(t *testing.T) {
	d := draw(7)
	for range 2000 {
		l := d.starters(40)
		fewest, _ := start.Fewest(l)
		for range 5 {
			pairs, e := start.Neighbours(l, d.Perm(len(l)))
			want(t, "the error of Neighbours", e, api.OK)
			want(t, "whether there are fewer neighbours", pairs < fewest, false)
		}
		order, _ := start.Apart(l)
		pairs, e := start.Neighbours(l, order)
		want(t, "the neighbours of Apart", pairs, fewest)
		want(t, "their error", e, api.OK)
	}
}

// P6.6: groups differ by at most one starter, and each starter is in one of them.
func TestGroupsAreEven(t *testing.T) {
	d := draw(8)
	for range 500 {
		l := d.starters(160)
		groups := 1 + d.Intn(16)
		lists, _ := start.Groups(l, groups, 1+d.Intn(99))
		var sizes, all []int
		for _, list := range lists {
			sizes = append(sizes, len(list))
			all = append(all, list...)
		}
		want(t, "how many groups", len(lists), groups)
		want(t, "how much groups differ", slices.Max(sizes)-slices.Min(sizes) <= 1, true)
		slices.Sort(all)
		for i, s := range all {
			want(t, "a starter", s, i)
		}
		want(t, "how many starters", len(all), len(l))
	}
}

// P6.6: of the best two, four, eight seeds (and so on) no two meet before the last one, two, three rounds.
func TestBestSeedsMeetLate(t *testing.T) {
	for n := 2; n <= 64; n++ {
		rounds := bits.Len(uint(n - 1))
		for last := 1; 1<<last <= n; last++ {
			for a := 1; a <= 1<<last; a++ {
				for b := 1; b < a; b++ {
					round, e := start.Meet(n, a, b)
					want(t, "the error of Meet", e, api.OK)
					want(t, "whether they meet late", round > rounds-last, true)
				}
			}
		}
	}
}

// P6.6: the seeds of the two slots of a first race are together one more than the slots, if none is a bye; all seeds are there once.
func TestSumsOfSeeds(t *testing.T) {
	for n := 2; n <= 64; n++ {
		slots, _ := start.Bracket(n)
		var seeds []int
		for i := 0; i < len(slots); i += 2 {
			if slots[i] > 0 && slots[i+1] > 0 {
				want(t, "the sum of two seeds", slots[i]+slots[i+1], len(slots)+1)
			}
			want(t, "whether somebody is in the race", slots[i] > 0 || slots[i+1] > 0, true)
		}
		for _, s := range slots {
			if s > 0 {
				seeds = append(seeds, s)
			}
		}
		slices.Sort(seeds)
		for i, s := range seeds {
			want(t, "a seed", s, i+1)
		}
		want(t, "how many seeds", len(seeds), n)
	}
}

// P6.6: two seeds that win until they meet race in the round that Meet says.
func TestMeetInRaces(t *testing.T) {
	d := draw(9)
	for range 500 {
		n := 2 + d.Intn(63)
		a, b := 1+d.Intn(n), 1+d.Intn(n)
		if a == b {
			continue
		}
		wanted, _ := start.Meet(n, a, b)
		l, _ := start.Races(names(n))
		one, two := "c"+strconv.Itoa(a), "c"+strconv.Itoa(b)
		for round := 1; round <= wanted; round++ {
			hasBoth := func(r start.Race) bool { return r.A == one && r.B == two || r.A == two && r.B == one }
			want(t, "whether they meet", slices.ContainsFunc(l, hasBoth), round == wanted)
			for i, r := range l {
				if r.Winner == 0 {
					l[i].Winner = 1
				}
				if r.B == one || r.B == two {
					l[i].Winner = 2
				}
			}
			l, _ = start.Next(l)
		}
	}
}

// P6.6: a bracket has one winner at most, and each climber just one place.
func TestPlacesAreOne(t *testing.T) {
	d := draw(10)
	for range 500 {
		rounds := d.bracket(t, 64)
		places, e := start.Places(rounds)
		want(t, "the error of Places", e, api.OK)
		count := map[string]int{}
		winners := 0
		for i, p := range places {
			count[p.Name]++
			if p.Place == 1 {
				winners++
			}
			want(t, "whether places ascend", i == 0 || places[i-1].Place <= p.Place, true)
		}
		want(t, "whether there is one winner at most", winners <= 1, true)
		all := 0
		for _, r := range rounds[0] {
			for _, name := range []string{r.A, r.B} {
				if name != "" {
					all++
					want(t, "the places of a climber", count[name], 1)
				}
			}
		}
		want(t, "how many places", len(places), all)
	}
}

// P6.6: a duel that is turned round has the other winner.
func TestDuelsTurnedRound(t *testing.T) {
	for _, a := range runs() {
		for _, b := range runs() {
			winner, e := start.Duel(a, b)
			turned, other := start.Duel(b, a)
			want(t, "the error turned round", other, e)
			want(t, "the winner turned round", turned, []int{0, 2, 1, 3}[winner])
		}
	}
}

// P6.6: who goes on does not depend on the order of the results.
func TestForwardInAnyOrder(t *testing.T) {
	d := draw(11)
	for range 1000 {
		l := d.results(12)
		quota := d.Intn(8)
		on, _ := start.Forward(l, quota)
		d.Shuffle(len(l), func(i, j int) { l[i], l[j] = l[j], l[i] })
		other, e := start.Forward(l, quota)
		want(t, "the error in another order", e, api.OK)
		slices.Sort(on)
		slices.Sort(other)
		want(t, "who goes on in another order", other, on)
	}
}

// P6.6: who goes on still does, if somebody else withdraws, and in whatever order several withdraw.
func TestForwardStill(t *testing.T) {
	d := draw(12)
	for range 1000 {
		l := d.results(12)
		quota := d.Intn(8)
		left := l
		var out []string
		for len(left) > 0 {
			on, _ := start.Forward(left, quota)
			gone := left[d.Intn(len(left))].Climber
			out = append(out, gone)
			left = modelWithout(left, []string{gone})
			still, _ := start.Forward(left, quota)
			for _, name := range on {
				want(t, "whether "+name+" goes on still", name == gone || slices.Contains(still, name), true)
			}
			d.Shuffle(len(out), func(i, j int) { out[i], out[j] = out[j], out[i] })
			at, e := start.Replace(l, quota, out)
			want(t, "the error of Replace", e, api.OK)
			want(t, "who goes on when they withdraw one by one", still, at)
		}
	}
}
