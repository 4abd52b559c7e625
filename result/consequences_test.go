package result_test

import (
	"math/big"
	"slices"
	"testing"

	"crux/api"
	"crux/result"
)

// shuffled returns a list in any order.
func shuffled[T any](d drawing, l []T) []T {
	l = slices.Clone(l)
	d.Shuffle(len(l), func(i, j int) { l[i], l[j] = l[j], l[i] })
	return l
}

// better returns a result that is better than another one with values, or as good if there are none.
func (d drawing) better(r api.Result) api.Result {
	r.Values = slices.Clone(r.Values)
	if len(r.Values) > 0 {
		r.Values[d.Intn(len(r.Values))]++
	}
	return r
}

// rankOf returns the rank of a climber in a round.
func rankOf(l []api.Result, name string) int {
	ranks, _ := result.Rank(l)
	return ranks[slices.IndexFunc(l, func(r api.Result) bool { return r.Climber == name })]
}

// standingOf returns the ranks of a contest by the climbers.
func standingOf(c result.Contest) map[string]int {
	places, _ := result.Standing(c)
	ranks := map[string]int{}
	for _, p := range places {
		ranks[p.Climber] = p.Rank
	}
	return ranks
}

// totalsOf returns the totals of disciplines by the climbers.
func totalsOf(l [][]api.Result, kind string) map[string]result.Total {
	list, _ := result.Combined(l, kind)
	totals := map[string]result.Total{}
	for _, x := range list {
		totals[x.Climber] = x
	}
	return totals
}

// wantRanks reports ranks that are not 1 and the number of those with lesser ranks.
func wantRanks(t *testing.T, what string, ranks []int) {
	t.Helper()
	for _, rank := range ranks {
		before := 0
		for _, other := range ranks {
			if other < rank {
				before++
			}
		}
		want(t, what, rank, 1+before)
	}
}

// P7.6: to be better is a total preorder, and ranks are those of one.
func TestRanksOfPreorder(t *testing.T) {
	d := draw(9)
	for range 1000 {
		l := d.round(names(8))
		ranks, _ := result.Rank(l)
		wantRanks(t, "a rank in a round", ranks)
		for i, a := range l {
			for j, b := range l {
				order, _ := result.Compare(a, b)
				back, _ := result.Compare(b, a)
				want(t, "the order the other way round", back, -order)
				want(t, "whether a is better", order < 0, ranks[i] < ranks[j])
				want(t, "whether both are equal", order == 0, ranks[i] == ranks[j])
			}
		}
		places, _ := result.Standing(d.contest(8))
		ranks = nil
		for _, p := range places {
			ranks = append(ranks, p.Rank)
		}
		want(t, "whether places are in order", slices.IsSorted(ranks), true)
		wantRanks(t, "a rank in a contest", ranks)
		totals, _ := result.Combined(d.disciplines(3, 6), []string{"sum", "product"}[d.Intn(2)])
		ranks = nil
		for _, x := range totals {
			ranks = append(ranks, x.Rank)
		}
		want(t, "whether totals are in order", slices.IsSorted(ranks), true)
		wantRanks(t, "a rank of a total", ranks)
	}
}

// P7.6: ranks do not hang on the order of the climbers.
func TestOrderOfClimbers(t *testing.T) {
	d := draw(10)
	for range 1000 {
		l := d.round(names(8))
		turned := shuffled(d, l)
		for _, name := range names(8) {
			want(t, "a rank in a round", rankOf(turned, name), rankOf(l, name))
		}
		c := d.contest(8)
		other := result.Contest{Seeds: c.Seeds}
		for _, r := range c.Rounds {
			other.Rounds = append(other.Rounds, shuffled(d, r))
		}
		want(t, "whether the ranks in a contest are the same", sameMaps(standingOf(other), standingOf(c)), true)
		changed, _ := result.Changed(c, other)
		want(t, "who has changed", changed, []string(nil))
		m := d.disciplines(3, 6)
		var mixed [][]api.Result
		for _, r := range shuffled(d, m) {
			mixed = append(mixed, shuffled(d, r))
		}
		want(t, "whether the totals are the same", sameMaps(totalsOf(mixed, "product"), totalsOf(m, "product")), true)
		o := d.opens(6, 5)
		order := d.Perm(len(o))
		var moved []result.Open
		for _, i := range order {
			moved = append(moved, o[i])
		}
		for i, climber := range order {
			ranks, _ := result.Ranks(o, climber)
			got, _ := result.Ranks(moved, i)
			want(t, "the possible ranks", got, ranks)
		}
	}
}

func sameMaps[T comparable](a, b map[string]T) bool {
	for name, x := range a {
		if y, ok := b[name]; !ok || x != y {
			return false
		}
	}
	return len(a) == len(b)
}

// P7.6: a better result never leads to a worse rank.
func TestBetterResults(t *testing.T) {
	d := draw(11)
	for range 2000 {
		l := d.round(names(8))
		i := d.Intn(len(l))
		name := l[i].Climber
		improved := slices.Clone(l)
		improved[i] = d.better(l[i])
		want(t, "whether the rank in a round is worse", rankOf(improved, name) > rankOf(l, name), false)

		c := d.contest(8)
		last := len(c.Rounds) - 1
		if k := d.Intn(last + 1); len(c.Rounds[k]) > 0 {
			i = d.Intn(len(c.Rounds[k]))
			name = c.Rounds[k][i].Climber
			other := result.Contest{Rounds: slices.Clone(c.Rounds), Seeds: c.Seeds}
			other.Rounds[k] = slices.Clone(c.Rounds[k])
			other.Rounds[k][i] = d.better(c.Rounds[k][i])
			want(t, "whether the rank in a contest is worse", standingOf(other)[name] > standingOf(c)[name], false)
		}

		m := d.disciplines(3, 6)
		if k := d.Intn(len(m)); len(m[k]) > 0 {
			i = d.Intn(len(m[k]))
			name = m[k][i].Climber
			other := slices.Clone(m)
			other[k] = slices.Clone(m[k])
			other[k][i] = d.better(m[k][i])
			for _, kind := range []string{"sum", "product"} {
				want(t, "whether the rank of the "+kind+" is worse", totalsOf(other, kind)[name].Rank > totalsOf(m, kind)[name].Rank, false)
			}
		}
	}
}

// P7.6: two climbers have the same rank exactly if nothing tells them apart, and the ties are these.
func TestSameRanks(t *testing.T) {
	d := draw(12)
	for range 1000 {
		c := d.contest(7)
		ranks := standingOf(c)
		ties, _ := result.Ties(c)
		for _, a := range c.Rounds[0] {
			for _, b := range c.Rounds[0] {
				number, order, e := result.Decides(c, a.Climber, b.Climber)
				if e == api.ErrTwice {
					continue
				}
				isTie := func(group []string) bool {
					return slices.Contains(group, a.Climber) && slices.Contains(group, b.Climber)
				}
				same := ranks[a.Climber] == ranks[b.Climber]
				want(t, "whether nothing decides", number == -1, same)
				want(t, "whether nobody is better", order == 0, same)
				want(t, "whether both are in a tie", slices.ContainsFunc(ties, isTie), same)
				want(t, "whether the better one has the lesser rank", order == -1, ranks[a.Climber] < ranks[b.Climber])
			}
		}
	}
}

// P7.6: the numbers of all climbers in a discipline add up to the sum of all ranks.
func TestSumOfNumbers(t *testing.T) {
	d := draw(13)
	for range 500 {
		n := d.Intn(40)
		totals, _ := result.Combined([][]api.Result{d.round(names(n))}, "product")
		sum := new(big.Rat)
		for _, x := range totals {
			number, _ := new(big.Rat).SetString(string(x.Number))
			sum.Add(sum, number)
		}
		want(t, "the sum", sum.Cmp(big.NewRat(int64(n*(n+1)/2), 1)), 0)
	}
}

// P7.6: a rank is possible or excluded, never both; the best and the worst possible rank are those with the greatest and the least value of the climber.
func TestPossibleOrExcluded(t *testing.T) {
	d := draw(14)
	for range 1000 {
		l := d.opens(12, 1+d.Intn(40))
		climber := d.Intn(len(l))
		possible, _ := result.Ranks(l, climber)
		best, worst := 1, 1
		for i, o := range l {
			if i != climber && o.Low > l[climber].High {
				best++
			}
			if i != climber && o.High > l[climber].Low {
				worst++
			}
		}
		want(t, "the best rank", possible[0], best)
		want(t, "the worst rank", possible[len(possible)-1], worst)
		for rank := 1; rank <= len(l); rank++ {
			_, witness := result.Witness(l, climber, rank)
			_, excluded := result.Excluded(l, climber, rank)
			want(t, "whether just one of both is there", (witness == api.OK) != (excluded == api.OK), true)
			want(t, "whether the rank is possible", slices.Contains(possible, rank), witness == api.OK)
		}
	}
}

// P7.6: no values lead to a rank that bars exclude.
func TestNoWitnessOfExcluded(t *testing.T) {
	d := draw(15)
	for range 3000 {
		l := d.opens(6, 8)
		var values []int
		for _, o := range l {
			values = append(values, o.Low+d.Intn(o.High-o.Low+1))
		}
		for climber := range l {
			rank := rankWith(values, climber)
			bars, e := result.Excluded(l, climber, rank)
			want(t, "the error of Excluded", e, api.ErrNone)
			want(t, "bars", bars, []result.Bar(nil))
			want(t, "CheckWitness", result.CheckWitness(l, climber, rank, values), api.OK)
			others := []result.Bar{bar(l[climber].Low, l[climber].High, []string{"above", "below"}[d.Intn(2)])}
			want(t, "CheckExcluded", result.CheckExcluded(l, climber, rank, others), api.ErrProof)
		}
	}
}

// P7.6: a climber can be first, or is eliminated, never both.
func TestFirstOrEliminated(t *testing.T) {
	d := draw(16)
	for range 2000 {
		l := d.league(8, 24)
		somebody := false
		for climber := range l.Climbers {
			_, title := result.Title(l, climber)
			_, eliminated := result.Eliminated(l, climber)
			want(t, "whether just one of both is there", (title == api.OK) != (eliminated == api.OK), true)
			somebody = somebody || title == api.OK
		}
		want(t, "whether somebody can be first", somebody, true)
	}
}

// P7.6: winners with which somebody is first leave no set that proves the contrary.
func TestNoSetAgainstTheFirst(t *testing.T) {
	d := draw(17)
	for range 2000 {
		l := d.league(6, 12)
		points := slices.Clone(l.Points)
		var winners []int
		for _, duel := range l.Duels {
			winner := []int{duel.A, duel.B}[d.Intn(2)]
			winners = append(winners, winner)
			points[winner]++
		}
		climber := slices.Index(points, slices.Max(points))
		want(t, "CheckTitle", result.CheckTitle(l, climber, winners), api.OK)
		var set []int
		for n := range l.Climbers {
			if n != climber && d.Intn(3) > 0 {
				set = append(set, n)
			}
		}
		if len(set) > 0 {
			want(t, "CheckEliminated", result.CheckEliminated(l, climber, set), api.ErrProof)
		}
		_, e := result.Eliminated(l, climber)
		want(t, "the error of Eliminated", e, api.ErrNone)
	}
}
