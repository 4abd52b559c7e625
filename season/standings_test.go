package season_test

import (
	"math"
	"slices"
	"testing"

	"crux/api"
	"crux/season"
)

// P8.2: example 2.
func TestExampleOfStandings(t *testing.T) {
	standings, e := season.Standings(two(), table(), rule(30, 1, 1), 30)
	want(t, "Best 1", standings, []season.Standing{{"ann", "10", 1}, {"bea", "10", 1}, {"cia", "9/2", 3}})
	want(t, "the error", e, api.OK)
	standings, _ = season.Standings(two(), table(), rule(30, 2, 1), 30)
	want(t, "Best 2", standings, []season.Standing{{"ann", "16", 1}, {"bea", "29/2", 2}, {"cia", "9/2", 3}})
	for climber, contests := range map[string][]int{"ann": {0}, "bea": {1}, "cia": {0}} {
		_, got, _ := season.Score(two(), table(), rule(30, 1, 1), climber, 30)
		want(t, "what counts of "+climber, got, contests)
	}
	lapses, e := season.Lapses(two(), table(), rule(30, 1, 1), "ann", 30)
	want(t, "the day on which the points of ann lapse", lapses, 40)
	want(t, "the error", e, api.OK)
	points, _, _ := season.Score(two(), table(), rule(30, 1, 1), "ann", 40)
	want(t, "the points on this day", points, api.Rat("6"))
	points, _, _ = season.Score(two(), table(), rule(30, 1, 1), "ann", 39)
	want(t, "the points on the day before", points, api.Rat("10"))
}

// P8.2: example 3.
func TestExampleOfNations(t *testing.T) {
	nations, e := season.Nations(two(), table(), rule(30, 2, 1), 30)
	want(t, "Team 1", nations, []season.Nation{{"A", "16"}, {"B", "29/2"}})
	want(t, "the error", e, api.OK)
	nations, _ = season.Nations(two(), table(), rule(30, 2, 2), 30)
	want(t, "Team 2", nations, []season.Nation{{"A", "41/2"}, {"B", "29/2"}})
}

// seasonErrors returns the errors of all functions of standings.
func seasonErrors(l []season.Contest, points []int, r season.Rule, climber string, day int) map[string]api.Errno {
	_, _, score := season.Score(l, points, r, climber, day)
	_, standings := season.Standings(l, points, r, day)
	_, nations := season.Nations(l, points, r, day)
	_, lapses := season.Lapses(l, points, r, climber, day)
	_, changed := season.Changed(nil, l, points, r, day)
	return map[string]api.Errno{"Score": score, "Standings": standings, "Nations": nations, "Lapses": lapses, "Changed": changed}
}

// P8.2: the errors of the arguments in their order.
func TestErrorsOfStandings(t *testing.T) {
	twice := []season.Contest{contest("a", 1), contest("a", 1)}
	good := rule(30, 1, 1)
	for _, row := range []struct {
		what    string
		l       []season.Contest
		t       []int
		r       season.Rule
		climber string
		day     int
		e       api.Errno
	}{
		{"example 2", two(), table(), good, "ann", 30, api.OK},
		{"the contests", twice, []int{-1}, rule(0, 0, 0), "", -1, api.ErrTwice},
		{"the table", two(), []int{1, 2}, rule(0, 0, 0), "", -1, api.ErrOrder},
		{"the table alone", two(), []int{1, 2}, good, "ann", 30, api.ErrOrder},
		{"the rule", two(), table(), rule(0, 1, 1), "ann", 30, api.ErrRange},
		{"the rule before the climber", two(), table(), rule(30, 1, 17), "", 30, api.ErrRange},
		{"a window below", two(), table(), rule(-1, 1, 1), "ann", 30, api.ErrRange},
		{"the longest window", two(), table(), rule(99999, 1, 1), "ann", 30, api.OK},
		{"a window above", two(), table(), rule(100000, 1, 1), "ann", 30, api.ErrRange},
		{"Best below", two(), table(), rule(30, 0, 1), "ann", 30, api.ErrRange},
		{"the greatest Best", two(), table(), rule(30, 16, 1), "ann", 30, api.OK},
		{"Best above", two(), table(), rule(30, 17, 1), "ann", 30, api.ErrRange},
		{"Team below", two(), table(), rule(30, 1, 0), "ann", 30, api.ErrRange},
		{"the greatest Team", two(), table(), rule(30, 1, 16), "ann", 30, api.OK},
		{"Team above", two(), table(), rule(30, 1, 17), "ann", 30, api.ErrRange},
		{"the greatest integers", two(), table(), rule(math.MaxInt, math.MaxInt, math.MaxInt), "ann", 30, api.ErrRange},
		{"the least integers", two(), table(), rule(math.MinInt, math.MinInt, math.MinInt), "ann", 30, api.ErrRange},
		{"a day below", two(), table(), good, "ann", -1, api.ErrRange},
		{"a day above", two(), table(), good, "ann", 100000, api.ErrRange},
		{"the greatest integer as the day", two(), table(), good, "ann", math.MaxInt, api.ErrRange},
		{"the least integer as the day", two(), table(), good, "ann", math.MinInt, api.ErrRange},
	} {
		for name, e := range seasonErrors(row.l, row.t, row.r, row.climber, row.day) {
			want(t, name+": "+row.what, e, row.e)
		}
	}
	for _, row := range []struct {
		what    string
		climber string
		day     int
		e       api.Errno
	}{
		{"no name", "", 30, api.ErrName},
		{"no name before the day", "a b", -1, api.ErrName},
		{"the day before a climber who is not there", "zoe", 100000, api.ErrRange},
		{"a climber who is not there", "zoe", 30, api.ErrNone},
		{"a climber without a place", "dot", 30, api.ErrNone},
		{"the name of a nation", "A", 30, api.ErrNone},
		{"a climber before the first contest", "ann", 9, api.ErrNone},
		{"a climber of the contest on the day", "ann", 10, api.OK},
		{"a climber behind all windows", "ann", 60, api.ErrNone},
		{"a climber on the last day of a window", "cia", 39, api.OK},
		{"a climber behind a window", "cia", 40, api.ErrNone},
	} {
		_, _, e := season.Score(two(), table(), good, row.climber, row.day)
		want(t, "Score: "+row.what, e, row.e)
		_, e = season.Lapses(two(), table(), good, row.climber, row.day)
		want(t, "Lapses: "+row.what, e, row.e)
	}
}

// P8.2: Changed names the error of its first list before that of its second one, and both before the others.
func TestErrorsOfChanged(t *testing.T) {
	nameless, twice := []season.Contest{contest("", 1)}, []season.Contest{contest("a", 1), contest("a", 1)}
	for _, row := range []struct {
		what string
		a, b []season.Contest
		t    []int
		r    season.Rule
		day  int
		e    api.Errno
	}{
		{"the first list", nameless, twice, []int{1, 2}, rule(0, 1, 1), -1, api.ErrName},
		{"the second list", two(), twice, []int{-1}, rule(0, 1, 1), -1, api.ErrTwice},
		{"the first list alone", twice, two(), table(), rule(1, 1, 1), 1, api.ErrTwice},
		{"the table", two(), two(), []int{1, 2}, rule(0, 1, 1), -1, api.ErrOrder},
		{"the rule", two(), two(), table(), rule(0, 1, 1), 1, api.ErrRange},
		{"the day", two(), two(), table(), rule(1, 1, 1), -1, api.ErrRange},
	} {
		_, e := season.Changed(row.a, row.b, row.t, row.r, row.day)
		want(t, "Changed: "+row.what, e, row.e)
	}
}

// one returns a contest of one line.
func one(name string, day int, climber, nation string, place int) season.Contest {
	return contest(name, day, line(climber, nation, place))
}

// P8.2: the contests in the window, those that count, and their points.
func TestScore(t *testing.T) {
	four := []season.Contest{one("a", 10, "ann", "A", 2), one("b", 20, "ann", "A", 1), one("c", 15, "ann", "A", 2), one("d", 20, "ann", "A", 2)}
	for _, row := range []struct {
		what   string
		l      []season.Contest
		r      season.Rule
		day    int
		points api.Rat
		counts []int
	}{
		{"all", four, rule(11, 4, 1), 20, "28", []int{0, 1, 2, 3}},
		{"fewer than Best", four, rule(11, 16, 1), 20, "28", []int{0, 1, 2, 3}},
		{"the one with the most points", four, rule(11, 1, 1), 20, "10", []int{1}},
		{"of equal ones that of the list's end, on one day", four, rule(11, 2, 1), 20, "16", []int{1, 3}},
		{"of equal ones that of a later day, before the list's order", four, rule(11, 3, 1), 20, "22", []int{1, 2, 3}},
		{"the first day of the window is out", four, rule(10, 4, 1), 20, "22", []int{1, 2, 3}},
		{"a window of one day", four, rule(1, 4, 1), 20, "16", []int{1, 3}},
		{"a window of one day", four, rule(1, 4, 1), 15, "6", []int{2}},
		{"contests behind the day", four, rule(11, 4, 1), 19, "12", []int{0, 2}},
		{"contests behind the day, Best 1", four, rule(11, 1, 1), 19, "6", []int{2}},
		{"a window that begins before the first day", four, rule(99999, 1, 1), 12, "6", []int{0}},
		{"the last day", []season.Contest{one("a", 99999, "ann", "A", 1)}, rule(1, 1, 1), 99999, "10", []int{0}},
		{"the first day", []season.Contest{one("a", 0, "ann", "A", 1)}, rule(1, 1, 1), 0, "10", []int{0}},
		{"lines without a place do not count", []season.Contest{one("a", 5, "ann", "A", 0), one("b", 4, "ann", "A", 3)}, rule(9, 2, 1), 5, "3", []int{1}},
		{"places without points count", []season.Contest{one("a", 5, "ann", "A", 9), one("b", 4, "ann", "A", 8)}, rule(9, 1, 1), 5, "0", []int{0}},
		{"places without points are places", []season.Contest{one("a", 5, "ann", "A", 9), one("b", 4, "ann", "A", 1)}, rule(9, 2, 1), 5, "10", []int{0, 1}},
	} {
		points, counts, e := season.Score(row.l, table(), row.r, "ann", row.day)
		want(t, "the points: "+row.what, points, row.points)
		want(t, "what counts: "+row.what, counts, row.counts)
		want(t, "the error: "+row.what, e, api.OK)
		model, modelCounts, _ := modelScoreOf(row.l, table(), row.r, "ann", row.day)
		want(t, "the model: "+row.what, model, row.points)
		want(t, "the model: "+row.what, modelCounts, row.counts)
	}
}

// P8.2: of many equal scores the later ones count, in whatever order the contests are listed.
func TestManyEqualScores(t *testing.T) {
	d := draw(14)
	for range 20 {
		var l []season.Contest
		var later []int
		for i, day := range d.Perm(32) {
			l = append(l, one(names(32)[i], day, "ann", "A", 1))
			if day >= 16 {
				later = append(later, i)
			}
		}
		_, counts, _ := season.Score(l, table(), rule(32, 16, 1), "ann", 31)
		want(t, "what counts of different days", counts, later)
		for i := range l {
			l[i].Day = 5
		}
		_, counts, _ = season.Score(l, table(), rule(32, 16, 1), "ann", 31)
		want(t, "what counts of one day", counts, []int{16, 17, 18, 19, 20, 21, 22, 23, 24, 25, 26, 27, 28, 29, 30, 31})
		for i := range l {
			l[i].Lines[0].Place = d.from(1, 3)
		}
		r := rule(32, d.from(1, 16), 1)
		points, counts, _ := season.Score(l, table(), r, "ann", 31)
		modelPoints, modelCounts, _ := modelScoreOf(l, table(), r, "ann", 31)
		want(t, "the points with several equal ones", points, modelPoints)
		want(t, "what counts of several equal ones", counts, modelCounts)
	}
}

// P8.2: with equal points the lists of points decide, and those that are equal have one rank.
func TestRanks(t *testing.T) {
	points := []int{8, 4, 4, 2, 0}
	// The climbers have 4 and 4; 8; 4, 4 and 0; 8 and 0; 4, 2 and 2; 4 and 4.
	l := []season.Contest{
		contest("a", 1, line("d", "A", 3), line("c", "A", 1), line("b", "A", 2)),
		contest("b", 2, line("d", "A", 2), line("a", "A", 1), line("b", "A", 3)),
		contest("c", 3, line("b", "A", 6), line("a", "A", 5), line("e", "B", 2)),
		contest("d", 4, line("e", "B", 4), line("f", "A", 2)),
		contest("e", 5, line("e", "B", 4), line("f", "A", 3)),
	}
	for _, row := range []struct {
		what string
		best int
		l    []season.Standing
	}{
		{"all count", 9, []season.Standing{{"a", "8", 1}, {"c", "8", 2}, {"b", "8", 3}, {"d", "8", 4}, {"f", "8", 4}, {"e", "8", 6}}},
		{"two count", 2, []season.Standing{{"a", "8", 1}, {"c", "8", 2}, {"b", "8", 3}, {"d", "8", 3}, {"f", "8", 3}, {"e", "6", 6}}},
		{"one counts", 1, []season.Standing{{"a", "8", 1}, {"c", "8", 1}, {"b", "4", 3}, {"d", "4", 3}, {"e", "4", 3}, {"f", "4", 3}}},
	} {
		got, e := season.Standings(l, points, rule(9, row.best, 1), 5)
		want(t, "the standings: "+row.what, got, row.l)
		want(t, "the error: "+row.what, e, api.OK)
		model, _ := modelStandings(l, points, rule(9, row.best, 1), 5)
		want(t, "the model: "+row.what, model, row.l)
	}
}

// P8.2: who has a standing.
func TestWhoHasStanding(t *testing.T) {
	l := []season.Contest{
		contest("a", 5, line("out", "A", 0), line("zero", "A", 9), line("Zoe", "A", 1)),
		contest("b", 7, line("late", "A", 1), line("out", "A", 0)),
		contest("c", 1, line("early", "A", 1), line("out", "A", 2)),
	}
	got, _ := season.Standings(l, table(), rule(4, 9, 9), 5)
	want(t, "with a place in the window", got, []season.Standing{{"Zoe", "10", 1}, {"zero", "0", 2}})
	got, _ = season.Standings(l, table(), rule(5, 9, 9), 5)
	want(t, "by the bytes of the names", got, []season.Standing{{"Zoe", "10", 1}, {"early", "10", 1}, {"out", "6", 3}, {"zero", "0", 4}})
	for _, contests := range [][]season.Contest{nil, l} {
		got, e := season.Standings(contests, table(), rule(5, 9, 9), 20)
		want(t, "nobody", got, []season.Standing(nil))
		want(t, "the error of nobody", e, api.OK)
		nations, e := season.Nations(contests, table(), rule(5, 9, 9), 20)
		want(t, "no nation", nations, []season.Nation(nil))
		want(t, "the error of no nation", e, api.OK)
	}
}

// P8.2: climbers who change their nations, teams, and nations with equal points.
func TestNations(t *testing.T) {
	l := []season.Contest{
		contest("a", 10, line("ann", "B", 1), line("bea", "C", 2), line("cia", "C", 3)),
		contest("b", 12, line("ann", "C", 3), line("bea", "C", 1), line("dan", "D", 2)),
		contest("c", 12, line("ann", "A", 2), line("bea", "E", 0), line("eve", "E", 9)),
		contest("d", 11, line("ann", "D", 1), line("fay", "F", 1)),
		contest("e", 13, line("ann", "F", 1)),
	}
	for _, row := range []struct {
		what string
		r    season.Rule
		day  int
		l    []season.Nation
	}{
		{"the last line of the day, which is the last one in the list", rule(9, 9, 9), 12, []season.Nation{{"A", "27"}, {"C", "19"}, {"F", "8"}, {"D", "6"}, {"E", "0"}}},
		{"before the later contests", rule(9, 9, 9), 11, []season.Nation{{"D", "18"}, {"C", "9"}, {"F", "8"}}},
		{"on the first day", rule(9, 9, 9), 10, []season.Nation{{"B", "10"}, {"C", "9"}}},
		{"teams of one", rule(9, 9, 1), 10, []season.Nation{{"B", "10"}, {"C", "6"}}},
		{"the next day", rule(9, 9, 1), 13, []season.Nation{{"F", "37"}, {"C", "16"}, {"D", "6"}, {"E", "0"}}},
		{"with all of a nation", rule(9, 9, 2), 13, []season.Nation{{"F", "45"}, {"C", "19"}, {"D", "6"}, {"E", "0"}}},
		{"equal nations", rule(1, 1, 1), 11, []season.Nation{{"D", "8"}, {"F", "8"}}},
		{"the day alone", rule(1, 1, 1), 13, []season.Nation{{"F", "10"}}},
	} {
		got, e := season.Nations(l, table(), row.r, row.day)
		want(t, "the nations: "+row.what, got, row.l)
		want(t, "the error: "+row.what, e, api.OK)
		model, _ := modelNations(l, table(), row.r, row.day)
		want(t, "the model: "+row.what, model, row.l)
	}
}

// P8.2: the next day with other points.
func TestLapses(t *testing.T) {
	last := []season.Contest{one("a", 99998, "ann", "A", 1), one("b", 99999, "ann", "A", 2)}
	even := []season.Contest{one("a", 1, "ann", "A", 1), one("b", 4, "ann", "A", 1), one("c", 6, "ann", "A", 2), one("d", 9, "ann", "A", 1)}
	for _, row := range []struct {
		what string
		l    []season.Contest
		r    season.Rule
		day  int
		next int
		e    api.Errno
	}{
		{"the only contest", even[:1], rule(9, 1, 1), 1, 10, api.OK},
		{"the only contest, later", even[:1], rule(9, 1, 1), 9, 10, api.OK},
		{"the only contest, in a window of one day", even[:1], rule(1, 1, 1), 1, 2, api.OK},
		{"another one has as many points", even[:2], rule(9, 1, 1), 5, 13, api.OK},
		{"both count", even[:2], rule(9, 2, 1), 5, 10, api.OK},
		{"a better one begins behind the day", even, rule(9, 1, 1), 3, 10, api.OK},
		{"another one with less", even[:3], rule(9, 1, 1), 6, 13, api.OK},
		{"later ones keep the points", even, rule(9, 1, 1), 9, 18, api.OK},
		{"later ones keep some of the points", even, rule(9, 2, 1), 9, 13, api.OK},
		{"the contest that leaves does not count", []season.Contest{one("a", 1, "ann", "A", 2), one("b", 2, "ann", "A", 1)}, rule(9, 1, 1), 3, 11, api.OK},
		{"two of one day leave together", []season.Contest{one("a", 2, "ann", "A", 2), one("b", 2, "ann", "A", 1), one("c", 4, "ann", "A", 1)}, rule(9, 1, 1), 4, 13, api.OK},
		{"one that has left already", []season.Contest{one("a", 1, "ann", "A", 1), one("b", 5, "ann", "A", 2)}, rule(4, 2, 1), 5, 9, api.OK},
		{"no points are left", []season.Contest{one("a", 1, "ann", "A", 1), one("b", 5, "ann", "A", 9)}, rule(6, 2, 1), 5, 7, api.OK},
		{"no points", []season.Contest{one("a", 1, "ann", "A", 9), one("b", 5, "ann", "A", 9)}, rule(6, 2, 1), 5, 0, api.ErrNone},
		{"no points before a contest with some", []season.Contest{one("a", 1, "ann", "A", 9), one("b", 5, "ann", "A", 1)}, rule(6, 2, 1), 4, 0, api.ErrNone},
		{"behind the last day", last, rule(99999, 1, 1), 99999, 199997, api.OK},
		{"behind the last day, in a window of one day", last, rule(1, 1, 1), 99999, 100000, api.OK},
	} {
		got, e := season.Lapses(row.l, table(), row.r, "ann", row.day)
		want(t, "Lapses: "+row.what, got, row.next)
		want(t, "the error: "+row.what, e, row.e)
		if row.r.Window < 10 {
			model, _ := modelLapses(row.l, table(), row.r, "ann", row.day)
			want(t, "the model: "+row.what, model, row.next)
		}
	}
}

// P8.2: who has another standing: other points, another rank alone, or one in one list alone.
func TestChanged(t *testing.T) {
	with := func(places ...int) []season.Contest {
		c := contest("cup", 5)
		for i, place := range places {
			c.Lines = append(c.Lines, line([]string{"zoe", "ann", "bob", "Eve"}[i], "A", place))
		}
		return []season.Contest{c}
	}
	points := []int{9, 9, 5, 5, 1}
	other := with(1, 2, 3)
	other[0].Name, other[0].Lines[0].Nation = "other", "B"
	for _, row := range []struct {
		what    string
		a, b    []season.Contest
		day     int
		changed []string
	}{
		{"the same", with(1, 2, 3), with(1, 2, 3), 5, nil},
		{"no contests", nil, nil, 5, nil},
		{"other points", with(1, 3), with(3, 1), 5, []string{"ann", "zoe"}},
		{"equal points for another place", with(1, 2), with(2, 1), 5, nil},
		{"another rank alone", with(3, 4, 5), with(1, 4, 5), 5, []string{"ann", "zoe"}},
		{"in the first list alone", with(1, 2, 3), with(1, 2), 5, []string{"bob"}},
		{"in the second list alone", with(1, 2), with(1, 2, 3), 5, []string{"bob"}},
		{"all in the first list alone", with(1, 2, 3, 4), nil, 5, []string{"Eve", "ann", "bob", "zoe"}},
		{"all in the second list alone", nil, with(1, 2, 3, 4), 5, []string{"Eve", "ann", "bob", "zoe"}},
		{"no standing with a place 0", with(1, 0), with(1), 5, nil},
		{"a standing with no points", with(1, 9), with(1, 0), 5, []string{"ann"}},
		{"other names of contests and nations", with(1, 2, 3), other, 5, nil},
		{"out of the window", with(1, 2, 3), with(3, 2, 1), 8, nil},
		{"on the last day of the window", with(1, 2), with(1, 3), 7, []string{"ann"}},
		{"before the contest", with(1, 2, 3), nil, 4, nil},
	} {
		got, e := season.Changed(row.a, row.b, points, rule(3, 1, 1), row.day)
		want(t, "Changed: "+row.what, got, row.changed)
		want(t, "the error: "+row.what, e, api.OK)
		got, _ = season.Changed(row.b, row.a, points, rule(3, 1, 1), row.day)
		want(t, "Changed, turned: "+row.what, got, row.changed)
		model, _ := modelChanged(row.a, row.b, points, rule(3, 1, 1), row.day)
		want(t, "the model: "+row.what, model, row.changed)
	}
}

// P8.2: numbers with as many digits as possible are not too large.
func TestLargestNumbers(t *testing.T) {
	full := slices.Repeat([]int{api.MaxPoints}, 2)
	var l []season.Contest
	for i, c := range contests(32) {
		// The first climber shares a place with some others, whose number has no common divisors with the others.
		shares := []int{160, 159, 157, 151, 149, 139, 137, 131, 127, 121, 119, 113, 109, 107, 103, 101}[i%16]
		for _, x := range lines(shares) {
			c.Lines = append(c.Lines, line(x.Climber, "A", 1))
		}
		l = append(l, c)
	}
	r := rule(16, 16, 16)
	got, contests, e := season.Score(l, full, r, "c1", 31)
	model, modelContests, _ := modelScoreOf(l, full, r, "c1", 31)
	want(t, "the points", got, model)
	want(t, "whether they have many digits", len(got) > 60, true)
	want(t, "what counts", contests, modelContests)
	want(t, "the error", e, api.OK)
	nations, e := season.Nations(l, full, r, 31)
	modelNations, _ := modelNations(l, full, r, 31)
	want(t, "the nations", nations, modelNations)
	want(t, "the error", e, api.OK)
}

// P8.2: as many climbers as possible.
func TestLargestSeason(t *testing.T) {
	l := contests(32)
	for i := range l {
		for _, x := range lines(160) {
			l[i].Lines = append(l[i].Lines, line(l[i].Name+"_"+x.Climber, x.Climber, (x.Place+4)/5))
		}
	}
	standings, e := season.Standings(l, table(), rule(32, 16, 16), 31)
	want(t, "the error", e, api.OK)
	want(t, "how many climbers", len(standings), 5120)
	want(t, "the first one", standings[0], season.Standing{Climber: "c10_c1", Points: "19/5", Rank: 1})
	want(t, "behind those with the places 1 to 3", standings[5*32*3], season.Standing{Climber: "c10_c100", Points: "0", Rank: 481})
	nations, _ := season.Nations(l, table(), rule(32, 16, 16), 31)
	want(t, "how many nations", len(nations), 160)
	want(t, "the first nation", nations[0], season.Nation{Name: "c1", Points: "304/5"})
	changed, _ := season.Changed(l, l[:31], table(), rule(32, 16, 16), 31)
	want(t, "how many have changed", len(changed), 5120-31*5)
}

// P8.2: seasons of any kind against the model.
func TestSeasonsOfAnyKind(t *testing.T) {
	d := draw(2)
	lapses := 0
	for range 4000 {
		l, points, r, day := d.contests(7, 6), d.table(), d.rule(), d.from(0, 25)
		standings, e := season.Standings(l, points, r, day)
		modelStandings, modelError := modelStandings(l, points, r, day)
		want(t, "any standings", standings, modelStandings)
		want(t, "any error", e, modelError)
		nations, e := season.Nations(l, points, r, day)
		modelNations, modelError := modelNations(l, points, r, day)
		want(t, "any nations", nations, modelNations)
		want(t, "any error", e, modelError)
		for _, climber := range names(7) {
			score, counts, e := season.Score(l, points, r, climber, day)
			modelScore, modelCounts, modelError := modelScoreOf(l, points, r, climber, day)
			want(t, "any points", score, modelScore)
			want(t, "what counts", counts, modelCounts)
			want(t, "any error", e, modelError)
			next, e := season.Lapses(l, points, r, climber, day)
			modelNext, modelError := modelLapses(l, points, r, climber, day)
			want(t, "any next day", next, modelNext)
			want(t, "any error", e, modelError)
			if next > day+1 {
				lapses++
			}
		}
	}
	want(t, "whether many points lapse later", lapses > 2000, true)
}

// P8.2: corrections of any kind against the model.
func TestCorrectionsOfAnyKind(t *testing.T) {
	d := draw(3)
	counts := map[int]int{}
	for range 5000 {
		a := d.contests(5, 6)
		b := slices.Clone(a)
		for i := range b {
			if d.Intn(4) == 0 {
				b[i].Lines = d.lines(6)
			}
			if d.Intn(6) == 0 {
				b[i].Day = d.from(0, 20)
			}
		}
		points, r, day := d.table(), d.rule(), d.from(0, 25)
		got, e := season.Changed(a, b, points, r, day)
		model, _ := modelChanged(a, b, points, r, day)
		want(t, "who has changed", got, model)
		want(t, "the error", e, api.OK)
		counts[len(got)]++
	}
	for n := range 6 {
		want(t, "whether there are enough corrections", counts[n] > 20, true)
	}
}
