package season_test

import (
	"math"
	"slices"
	"testing"

	"crux/api"
	"crux/season"
)

// badContests are contests with an error, and some that only seem to have one.
func badContests() []struct {
	what string
	c    season.Contest
	e    api.Errno
} {
	with := func(l ...season.Line) season.Contest { return contest("cup", 10, l...) }
	return []struct {
		what string
		c    season.Contest
		e    api.Errno
	}{
		{"example 1", cup(), api.OK},
		{"no lines", with(), api.OK},
		{"no name", contest("", 10), api.ErrName},
		{"a name that begins with a digit", contest("1cup", 10), api.ErrName},
		{"the longest name", contest(longName, 10), api.OK},
		{"a name that is too long", contest(tooLong, 10), api.ErrName},
		{"the name before the day", contest("", -1), api.ErrName},
		{"the first day", contest("cup", 0), api.OK},
		{"a day before the first one", contest("cup", -1), api.ErrRange},
		{"the last day", contest("cup", 99999), api.OK},
		{"a day behind the last one", contest("cup", 100000), api.ErrRange},
		{"the greatest integer as the day", contest("cup", math.MaxInt), api.ErrRange},
		{"the day before the lines", contest("cup", -1, lines(161)...), api.ErrRange},
		{"the most lines", with(lines(160)...), api.OK},
		{"one line more", with(slices.Repeat(lines(1), 161)...), api.ErrMany},
		{"too many lines before a wrong one", with(make([]season.Line, 161)...), api.ErrMany},
		{"a climber without a name", with(line("", "A", 1)), api.ErrName},
		{"a climber whose name is too long", with(line(tooLong, "A", 1)), api.ErrName},
		{"a nation without a name", with(line("ann", "", 1)), api.ErrName},
		{"a nation whose name has a blank", with(line("ann", "A B", 1)), api.ErrName},
		{"a nation whose name has a letter of another alphabet", with(line("ann", "É", 1)), api.ErrName},
		{"the longest names", with(line(longName, longName, 1)), api.OK},
		{"a climber twice", with(line("ann", "A", 1), line("bea", "A", 2), line("ann", "B", 3)), api.ErrTwice},
		{"a climber twice without a place", with(line("ann", "A", 0), line("ann", "A", 0)), api.ErrTwice},
		{"a nation as a climber", with(line("ann", "ann", 1), line("bea", "ann", 1)), api.OK},
		{"a climber with the name of the contest", with(line("cup", "A", 1)), api.OK},
		{"the nation before a climber twice", with(line("ann", "A", 1), line("ann", "", 1)), api.ErrName},
		{"a climber twice before the place", with(line("ann", "A", 1), line("ann", "A", -1)), api.ErrTwice},
		{"no place", with(line("ann", "A", 0)), api.OK},
		{"a place below", with(line("ann", "A", -1)), api.ErrRange},
		{"the last place", with(line("ann", "A", 160)), api.OK},
		{"a place above", with(line("ann", "A", 161)), api.ErrRange},
		{"places that are no ranks", with(line("ann", "A", 3), line("bea", "A", 3), line("cia", "A", 4)), api.OK},
		{"the first line with an error", with(line("ann", "A", 161), line("", "A", 1)), api.ErrRange},
	}
}

// P8.1: the errors of one contest in their order, in Points before those of the table.
func TestErrorsOfContest(t *testing.T) {
	for _, row := range badContests() {
		want(t, "the model: "+row.what, modelContest(row.c), row.e)
		want(t, "CheckContests: "+row.what, season.CheckContests([]season.Contest{row.c}), row.e)
		_, e := season.Points(row.c, table())
		want(t, "Points: "+row.what, e, row.e)
		_, e = season.Points(row.c, []int{1, 2})
		want(t, "Points with a wrong table: "+row.what, e, first(row.e, api.ErrOrder))
		for _, other := range badContests() {
			both := []season.Contest{row.c, contest("second", other.c.Day, other.c.Lines...)}
			want(t, "CheckContests: "+row.what+" before "+other.what, season.CheckContests(both), modelContests(both))
		}
	}
}

// P8.1: the errors of a list of contests.
func TestErrorsOfContests(t *testing.T) {
	many := func(n int) []season.Contest { return slices.Repeat([]season.Contest{{}}, n) }
	for _, row := range []struct {
		what string
		l    []season.Contest
		e    api.Errno
	}{
		{"none", nil, api.OK},
		{"example 2", two(), api.OK},
		{"the most contests", contests(32), api.OK},
		{"one more", contests(33), api.ErrMany},
		{"too many before a wrong one", many(33), api.ErrMany},
		{"as many as possible that are wrong", many(32), api.ErrName},
		{"the days in any order", []season.Contest{contest("a", 5), contest("b", 3), contest("c", 5)}, api.OK},
		{"a name twice", []season.Contest{contest("a", 1), contest("b", 2), contest("a", 3)}, api.ErrTwice},
		{"names in capital letters", []season.Contest{contest("a", 1), contest("A", 1)}, api.OK},
		{"its own error before a name twice", []season.Contest{contest("a", 1), contest("a", -1)}, api.ErrRange},
		{"the error of a line before a name twice", []season.Contest{contest("a", 1), contest("a", 1, line("b", "", 1))}, api.ErrName},
		{"a name twice before the error of the next one", []season.Contest{contest("a", 1), contest("a", 1), contest("", 1)}, api.ErrTwice},
		{"the first one with an error", []season.Contest{contest("a", 1), contest("b", 1, line("b", "B", 161)), contest("a", 1)}, api.ErrRange},
		{"a climber in two contests", []season.Contest{contest("a", 1, line("b", "B", 1)), contest("b", 1, line("b", "C", 1))}, api.OK},
	} {
		want(t, "CheckContests: "+row.what, season.CheckContests(row.l), row.e)
		want(t, "the model: "+row.what, modelContests(row.l), row.e)
	}
}

// P8.1: the errors of a table of points.
func TestErrorsOfTable(t *testing.T) {
	for _, row := range []struct {
		what string
		t    []int
		e    api.Errno
	}{
		{"no points", nil, api.OK},
		{"example 1", table(), api.OK},
		{"equal points", []int{5, 5, 5}, api.OK},
		{"zeros", []int{0, 0}, api.OK},
		{"the most points", []int{99999, 99999, 0}, api.OK},
		{"points above", []int{100000}, api.ErrRange},
		{"points below", []int{3, -1}, api.ErrRange},
		{"the greatest integer", []int{math.MaxInt}, api.ErrRange},
		{"the least integer", []int{math.MinInt}, api.ErrRange},
		{"points that rise", []int{3, 4}, api.ErrOrder},
		{"points that rise from 0", []int{0, 1}, api.ErrOrder},
		{"points that rise at the end", []int{9, 3, 3, 4}, api.ErrOrder},
		{"the range before the order", []int{3, 100000}, api.ErrRange},
		{"the first one with an error", []int{3, 4, -1}, api.ErrOrder},
		{"as many points as possible", slices.Repeat([]int{7}, 160), api.OK},
		{"one more", slices.Repeat([]int{7}, 161), api.ErrMany},
		{"too many before a wrong one", slices.Repeat([]int{-7}, 161), api.ErrMany},
	} {
		want(t, "CheckTable: "+row.what, season.CheckTable(row.t), row.e)
		want(t, "the model: "+row.what, modelTable(row.t), row.e)
		_, e := season.Points(cup(), row.t)
		want(t, "Points: "+row.what, e, row.e)
		_, e = season.Points(contest("cup", 100000), row.t)
		want(t, "Points of a wrong contest: "+row.what, e, api.ErrRange)
	}
}

// P8.1: the points of lines with places of any kind.
func TestPoints(t *testing.T) {
	all := func(places ...int) season.Contest {
		c := contest("cup", 10)
		for i, place := range places {
			c.Lines = append(c.Lines, line(names(i + 1)[i], "A", place))
		}
		return c
	}
	for _, row := range []struct {
		what   string
		c      season.Contest
		t      []int
		points []api.Rat
	}{
		{"example 1", cup(), table(), []api.Rat{"10", "9/2", "9/2", "0"}},
		{"no lines", all(), table(), nil},
		{"no table", all(1, 2, 2), nil, []api.Rat{"0", "0", "0"}},
		{"ranks in any order", all(3, 1, 2), table(), []api.Rat{"3", "10", "6"}},
		{"a place behind the table", all(4, 3, 160), table(), []api.Rat{"0", "3", "0"}},
		{"a tie that ends behind the table", all(2, 1, 2, 2), table(), []api.Rat{"3", "10", "3", "3"}},
		{"a tie that begins behind the table", all(4, 4), table(), []api.Rat{"0", "0"}},
		{"a tie at the end of the table", all(3, 3), table(), []api.Rat{"3/2", "3/2"}},
		{"all are first", all(1, 1, 1), table(), []api.Rat{"19/3", "19/3", "19/3"}},
		{"no places", all(0, 0, 0), table(), []api.Rat{"0", "0", "0"}},
		{"those without a place take no points", all(0, 1, 0, 2), table(), []api.Rat{"0", "10", "0", "6"}},
		{"places that are no ranks", all(1, 1, 2, 2), table(), []api.Rat{"8", "8", "9/2", "9/2"}},
		{"places with gaps", all(3, 2), table(), []api.Rat{"3", "6"}},
		{"a quotient in lowest terms", all(1, 1, 1, 1), []int{7, 1, 1, 1}, []api.Rat{"5/2", "5/2", "5/2", "5/2"}},
		{"the last place", all(160), slices.Repeat([]int{7}, 160), []api.Rat{"7"}},
		{"a tie that ends behind the last place", all(160, 160), slices.Repeat([]int{7}, 160), []api.Rat{"7/2", "7/2"}},
	} {
		points, e := season.Points(row.c, row.t)
		want(t, "Points: "+row.what, points, row.points)
		want(t, "the error: "+row.what, e, api.OK)
		model, _ := modelPoints(row.c, row.t)
		want(t, "the model: "+row.what, model, row.points)
	}
}

// P8.1: the largest contests.
func TestPointsOfLargestContest(t *testing.T) {
	c := contest("cup", 10, lines(160)...)
	full := slices.Repeat([]int{api.MaxPoints}, 160)
	for _, place := range []int{1, 2, 80, 160} {
		for i := range c.Lines {
			c.Lines[i].Place = place
		}
		points, _ := season.Points(c, full)
		model, _ := modelPoints(c, full)
		want(t, "the points of 160 lines with a place", points, model)
	}
}

// P8.1: contests of any kind against the model.
func TestPointsOfAnyKind(t *testing.T) {
	d := draw(1)
	for range 5000 {
		c, points := contest("cup", d.from(0, 20), d.lines(9)...), d.table()
		got, e := season.Points(c, points)
		model, modelError := modelPoints(c, points)
		want(t, "any points", got, model)
		want(t, "any error", e, modelError)
	}
}
