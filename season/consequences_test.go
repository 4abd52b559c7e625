package season_test

import (
	"math/big"
	"slices"
	"testing"

	"crux/api"
	"crux/season"
)

// numberOf returns the number of a text.
func numberOf(t *testing.T, a api.Rat) *big.Rat {
	t.Helper()
	x, ok := new(big.Rat).SetString(string(a))
	want(t, "whether a text is a number", ok, true)
	return x
}

// ranked gives the lines with a place ranks in a new order, with ties.
func (d drawing) ranked(l []season.Line) {
	rank, next := 1, 1
	for i, n := range d.Perm(len(l)) {
		if l[n].Place == 0 {
			continue
		}
		if i == 0 || d.Intn(3) > 0 {
			rank = next
		}
		l[n].Place = rank
		next++
	}
}

// P8.5: the points of a contest add up to those of the table for as many places as there are lines with one, if places are ranks.
func TestPointsAddUp(t *testing.T) {
	d := draw(6)
	for range 3000 {
		c, points := contest("cup", 1, d.lines(9)...), d.table()
		d.ranked(c.Lines)
		l, e := season.Points(c, points)
		want(t, "the error", e, api.OK)
		sum, with := new(big.Rat), 0
		for i, x := range l {
			sum.Add(sum, numberOf(t, x))
			if c.Lines[i].Place > 0 {
				with++
			}
		}
		all := 0
		for i, x := range points {
			if i < with {
				all += x
			}
		}
		want(t, "the sum of the points", textOf(sum), textOf(big.NewRat(int64(all), 1)))
	}
}

// shuffled returns contests in another order, in which those of one day keep theirs.
func (d drawing) shuffled(l []season.Contest) []season.Contest {
	byDay := map[int][]season.Contest{}
	for _, c := range l {
		byDay[c.Day] = append(byDay[c.Day], c)
	}
	var other []season.Contest
	for _, i := range d.Perm(len(l)) {
		day := l[i].Day
		other = append(other, byDay[day][0])
		byDay[day] = byDay[day][1:]
	}
	return other
}

// P8.5: standings do not depend on the order in which contests of different days are listed; nor do the other results.
func TestOrderOfContests(t *testing.T) {
	d := draw(7)
	for range 3000 {
		l, points, r, day := d.contests(7, 6), d.table(), d.rule(), d.from(0, 25)
		other := d.shuffled(l)
		standings, _ := season.Standings(l, points, r, day)
		otherStandings, _ := season.Standings(other, points, r, day)
		want(t, "the standings", otherStandings, standings)
		nations, _ := season.Nations(l, points, r, day)
		otherNations, _ := season.Nations(other, points, r, day)
		want(t, "the nations", otherNations, nations)
		changed, _ := season.Changed(l, other, points, r, day)
		want(t, "who has changed", changed, []string(nil))
		for _, x := range standings {
			_, counts, _ := season.Score(l, points, r, x.Climber, day)
			_, otherCounts, _ := season.Score(other, points, r, x.Climber, day)
			want(t, "what counts", namesOf(other, otherCounts), namesOf(l, counts))
			lapse, _ := season.Lapses(l, points, r, x.Climber, day)
			otherLapse, _ := season.Lapses(other, points, r, x.Climber, day)
			want(t, "when points lapse", otherLapse, lapse)
		}
	}
}

// namesOf returns the names of some contests in ascending order.
func namesOf(l []season.Contest, numbers []int) []string {
	var names []string
	for _, i := range numbers {
		names = append(names, l[i].Name)
	}
	slices.Sort(names)
	return names
}

// P8.5: a further contest never lowers points of its day.
func TestFurtherContest(t *testing.T) {
	d := draw(8)
	for range 3000 {
		l, points, r, day := d.contests(6, 6), d.table(), d.rule(), d.from(0, 20)
		more := slices.Insert(slices.Clone(l), d.Intn(len(l)+1), contest("further", day, d.lines(6)...))
		standings, _ := season.Standings(l, points, r, day)
		for _, x := range standings {
			now, _, e := season.Score(more, points, r, x.Climber, day)
			want(t, "the error", e, api.OK)
			want(t, "whether the points are lower", numberOf(t, now).Cmp(numberOf(t, x.Points)) < 0, false)
		}
	}
}

// P8.5: ranks are those of the points, and a score is the sum of the points of the contests that count.
func TestScoresAndStandings(t *testing.T) {
	d := draw(9)
	for range 2000 {
		l, points, r, day := d.contests(6, 6), d.table(), d.rule(), d.from(0, 25)
		standings, _ := season.Standings(l, points, r, day)
		for i, x := range standings {
			score, counts, e := season.Score(l, points, r, x.Climber, day)
			want(t, "the error", e, api.OK)
			want(t, "the points", score, x.Points)
			sum := new(big.Rat)
			for _, n := range counts {
				all, _ := season.Points(l[n], points)
				at := slices.IndexFunc(l[n].Lines, func(y season.Line) bool { return y.Climber == x.Climber })
				sum.Add(sum, numberOf(t, all[at]))
			}
			want(t, "the sum of what counts", textOf(sum), score)
			if i > 0 {
				before := standings[i-1]
				want(t, "whether points rise", numberOf(t, before.Points).Cmp(numberOf(t, x.Points)) < 0, false)
				want(t, "whether the rank is possible", x.Rank == i+1 || x.Rank == before.Rank && x.Points == before.Points, true)
			}
		}
	}
}

// P8.5: no possible order has less travel than the calendar.
func TestNoBetterOrder(t *testing.T) {
	d := draw(10)
	found := 0
	for range 300 {
		l := d.tour(8)
		best, e := season.Calendar(l)
		least, _ := season.Travel(l, best)
		if e == api.OK {
			_, e := season.Begins(l, best)
			want(t, "whether the calendar is possible", e, api.OK)
			found++
		}
		for range 300 {
			order := d.Perm(len(l.Hosts))
			if _, possible := season.Begins(l, order); possible != api.OK {
				continue
			}
			want(t, "the error of the calendar", e, api.OK)
			travel, _ := season.Travel(l, order)
			want(t, "whether another order has less travel", travel < least, false)
			want(t, "whether an equal order is before", travel == least && slices.Compare(order, best) < 0, false)
		}
	}
	want(t, "whether many calendars are possible", found > 50, true)
}

// P8.5: nobody has two places, no nation more than Cap, no rule more than Count; and those who withdraw have none.
func TestLimitsOfPlaces(t *testing.T) {
	d := draw(11)
	for range 5000 {
		q, withdrawn := d.quota(5, 9), d.some(names(9))
		places, _ := season.Places(q, withdrawn)
		open, _ := season.Open(q, withdrawn)
		climbers, nations := map[string]int{}, map[string]int{}
		given := make([]int, len(q.Lists))
		for _, p := range places {
			climbers[p.Climber]++
			l := q.Lists[p.Rule].Entries
			nations[l[slices.IndexFunc(l, func(x season.Entry) bool { return x.Climber == p.Climber })].Nation]++
			given[p.Rule]++
			want(t, "whether somebody with a place has withdrawn", slices.Contains(withdrawn, p.Climber), false)
		}
		for _, n := range climbers {
			want(t, "the places of a climber", n, 1)
		}
		for _, n := range nations {
			want(t, "whether a nation has too many", n > q.Cap, false)
		}
		for rule, l := range q.Lists {
			want(t, "the places of a rule and those that are open", given[rule]+open[rule], l.Count)
			want(t, "whether a rule has too many", open[rule] < 0, false)
		}
	}
}

// P8.5: those who withdraw in any order lead to the same places, and who withdraws is among those who lose a place.
func TestOrderOfWithdrawals(t *testing.T) {
	d := draw(12)
	for range 3000 {
		q, withdrawn := d.quota(5, 9), d.some(names(9))
		places, _ := season.Places(q, withdrawn)
		again, _ := season.Places(q, nil)
		for i, climber := range withdrawn {
			before := again
			lose, get, e := season.Withdraw(q, withdrawn[:i], climber)
			again, _ = season.Places(q, withdrawn[:i+1])
			if e == api.ErrNone {
				want(t, "the places without a change", again, before)
				continue
			}
			want(t, "whether who withdraws is among those who lose a place", slices.Contains(lose, climber), true)
			now := append(climbersOf(before), get...)
			now = slices.DeleteFunc(now, func(name string) bool { return slices.Contains(lose, name) })
			slices.Sort(now)
			then := climbersOf(again)
			slices.Sort(then)
			want(t, "who has a place behind a withdrawal", then, now)
		}
		want(t, "the places behind all withdrawals", again, places)
		d.Shuffle(len(withdrawn), func(i, j int) { withdrawn[i], withdrawn[j] = withdrawn[j], withdrawn[i] })
		again, _ = season.Places(q, withdrawn)
		want(t, "the places in another order", again, places)
	}
}

// climbersOf returns those who have places.
func climbersOf(places []season.Place) []string {
	var l []string
	for _, p := range places {
		l = append(l, p.Climber)
	}
	return l
}
