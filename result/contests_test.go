package result_test

import (
	"slices"
	"testing"

	"crux/api"
	"crux/result"
)

// rounds returns n rounds, each of one climber.
func rounds(n int) [][]api.Result {
	return slices.Repeat([][]api.Result{{ended("a", 1)}}, n)
}

// with returns a contest with rounds and seeds.
func with(seeds []string, rounds ...[]api.Result) result.Contest {
	return result.Contest{Rounds: rounds, Seeds: seeds}
}

// P7.2: the errors of a contest, in their order.
func TestCheckContest(t *testing.T) {
	one, wrong, other := []api.Result{ended("a", 1)}, []api.Result{ended("", 1)}, []api.Result{ended("b", 1)}
	for _, row := range []struct {
		what string
		c    result.Contest
		e    api.Errno
	}{
		{"no rounds", result.Contest{Seeds: []string{""}}, api.ErrEmpty},
		{"example 2", two(), api.OK},
		{"nobody", with(nil, nil), api.OK},
		{"nobody in a later round", with(nil, one, nil, nil), api.OK},
		{"the most rounds", with(nil, rounds(8)...), api.OK},
		{"one more round", with(nil, rounds(9)...), api.ErrMany},
		{"too many rounds before a wrong one", with(nil, append(rounds(8), wrong)...), api.ErrMany},
		{"a wrong first round", with(nil, wrong), api.ErrName},
		{"a wrong second round", with(nil, one, wrong), api.ErrName},
		{"too many in a round", with(nil, round(161)), api.ErrMany},
		{"a round that fits to none before", with(nil, one, other), api.ErrUnknown},
		{"who has been out", with(nil, one, nil, one), api.ErrUnknown},
		{"other values in each round", with(nil, one, []api.Result{ended("a", 1, 2)}, []api.Result{stateOf("a", "dsq")}), api.OK},
		{"an error of a round before who is unknown", with(nil, one, []api.Result{ended("b", 1), ended("c")}), api.ErrShape},
		{"the first round with an error", with(nil, one, other, wrong), api.ErrUnknown},
		{"the rounds before the seeds", with([]string{"x"}, one, wrong), api.ErrName},
		{"who is unknown before the seeds", with(make([]string, 161), one, append(one, ended("z", 1))), api.ErrUnknown},
		{"the most seeds", with(names(160), round(160)), api.OK},
		{"too many seeds", with(append(names(160), "c1"), round(160)), api.ErrMany},
		{"an unknown seed", with([]string{"a", "b"}, one), api.ErrUnknown},
		{"no name", with([]string{""}, one), api.ErrUnknown},
		{"a seed twice", with([]string{"a", "a"}, one), api.ErrTwice},
		{"the first seed with an error", with([]string{"a", "a", "b"}, one), api.ErrTwice},
		{"an unknown seed before one twice", with([]string{"a", "b", "a"}, one), api.ErrUnknown},
		{"a seed of the first round alone", with([]string{"b"}, []api.Result{ended("a", 1), ended("b", 2)}, one), api.OK},
	} {
		want(t, "CheckContest: "+row.what, result.CheckContest(row.c), row.e)
		_, e := result.Standing(row.c)
		want(t, "the error of Standing: "+row.what, e, row.e)
		_, e = result.Ties(row.c)
		want(t, "the error of Ties: "+row.what, e, row.e)
		_, e = result.Changed(row.c, two())
		want(t, "the error of Changed: "+row.what, e, row.e)
		_, e = result.Changed(two(), row.c)
		want(t, "the error of Changed for the second one: "+row.what, e, row.e)
		_, _, e = result.Decides(row.c, "", "")
		want(t, "the error of Decides: "+row.what, e, first(row.e, api.ErrUnknown))
	}
	_, e := result.Changed(with(nil, wrong), result.Contest{})
	want(t, "the error of Changed for both", e, api.ErrName)
	_, e = result.Changed(result.Contest{}, with(nil, wrong))
	want(t, "the error of Changed for both", e, api.ErrEmpty)
}

// P7.2: the places of contests, with count-back and seeds, and what tells climbers apart.
func TestStandingAndDecides(t *testing.T) {
	equal := two()
	equal.Rounds[0][1].Values[0] = 10
	back := with([]string{"b", "a"},
		[]api.Result{ended("a", 2), ended("b", 2), ended("c", 1), ended("d", 9), ended("e", 9)},
		[]api.Result{ended("c", 5), ended("b", 5), ended("a", 5), stateOf("d", "dnf")},
		[]api.Result{ended("a", 1), ended("b", 1), ended("c", 1)},
		nil,
	)
	for _, row := range []struct {
		what   string
		c      result.Contest
		places []result.Place
	}{
		{"nobody", with(nil, nil), nil},
		{"one", with(nil, []api.Result{stateOf("a", "dsq")}), []result.Place{{"a", 1}}},
		{"example 2", two(), []result.Place{{"cat", 1}, {"bea", 2}, {"ann", 3}, {"dan", 4}}},
		{"example 3 with seeds", equal, []result.Place{{"cat", 1}, {"ann", 2}, {"bea", 3}, {"dan", 4}}},
		{"example 3 without seeds", tied(), []result.Place{{"cat", 1}, {"ann", 2}, {"bea", 2}, {"dan", 4}}},
		{"count-back", back, []result.Place{{"b", 1}, {"a", 2}, {"c", 3}, {"d", 4}, {"e", 5}}},
		{"those without seeds", with([]string{"c"}, []api.Result{ended("a"), ended("b"), ended("c")}), []result.Place{{"c", 1}, {"a", 2}, {"b", 2}}},
	} {
		places, e := result.Standing(row.c)
		want(t, "the standing: "+row.what, places, row.places)
		want(t, "the error of Standing: "+row.what, e, api.OK)
	}
	for _, row := range []struct {
		what          string
		c             result.Contest
		a, b          string
		number, order int
		e             api.Errno
	}{
		{"example 2", two(), "ann", "bea", 0, 1, api.OK},
		{"example 2", two(), "bea", "ann", 0, -1, api.OK},
		{"example 2", two(), "ann", "dan", 1, -1, api.OK},
		{"example 2", two(), "dan", "ann", 1, 1, api.OK},
		{"example 2", two(), "cat", "ann", 1, -1, api.OK},
		{"example 3", equal, "ann", "bea", 2, -1, api.OK},
		{"example 3", equal, "bea", "ann", 2, 1, api.OK},
		{"example 3 without seeds", tied(), "ann", "bea", -1, 0, api.OK},
		{"the first round in which one is", back, "a", "e", 1, -1, api.OK},
		{"the first round in which one is", back, "d", "a", 2, 1, api.OK},
		{"the last round in which both are", back, "d", "e", 1, -1, api.OK},
		{"the first round, as the others are equal", back, "c", "b", 0, 1, api.OK},
		{"the seeds", back, "a", "b", 4, 1, api.OK},
		{"an unknown climber", two(), "eva", "ann", 0, 0, api.ErrUnknown},
		{"another unknown climber", two(), "ann", "eva", 0, 0, api.ErrUnknown},
		{"the same one", two(), "ann", "ann", 0, 0, api.ErrTwice},
		{"an unknown one twice", two(), "eva", "eva", 0, 0, api.ErrUnknown},
	} {
		number, order, e := result.Decides(row.c, row.a, row.b)
		what := row.what + ": " + row.a + " and " + row.b
		want(t, "what decides: "+what, number, row.number)
		want(t, "who is better: "+what, order, row.order)
		want(t, "the error of Decides: "+what, e, row.e)
	}
}

// P7.2: those who have a rank together.
func TestTies(t *testing.T) {
	for _, row := range []struct {
		what string
		c    result.Contest
		ties [][]string
	}{
		{"nobody", with(nil, nil), nil},
		{"one", with(nil, rounds(1)...), nil},
		{"example 2", two(), nil},
		{"example 3", tied(), [][]string{{"ann", "bea"}}},
		{"all", with(nil, round(3)), [][]string{{"c1", "c2", "c3"}}},
		{"two ranks", with([]string{"c"}, []api.Result{ended("z", 1), stateOf("b", "dns"), ended("c", 1), stateOf("a", "dns"), ended("d", 1)}, []api.Result{ended("d", 0), ended("z", 0)}), [][]string{{"z", "d"}, {"b", "a"}}},
	} {
		ties, e := result.Ties(row.c)
		want(t, "the ties: "+row.what, ties, row.ties)
		want(t, "the error of Ties: "+row.what, e, api.OK)
	}
}

// P7.2: those who have other ranks in another contest, or are in one of both alone.
func TestChanged(t *testing.T) {
	other := two()
	other.Rounds[0][0].Values[0] = 13
	for _, row := range []struct {
		what string
		a, b result.Contest
		l    []string
	}{
		{"the same", two(), two(), nil},
		{"other values", two(), other, []string{"ann", "bea"}},
		{"example 3", two(), tied(), []string{"ann"}},
		{"nobody before", with(nil, nil), two(), []string{"ann", "bea", "cat", "dan"}},
		{"nobody behind", two(), with(nil, nil), []string{"ann", "bea", "cat", "dan"}},
		{"other climbers", with(nil, []api.Result{ended("z", 2), ended("B", 1), ended("c", 0)}), with(nil, []api.Result{ended("a", 2), ended("B", 1), ended("d", 0)}), []string{"a", "c", "d", "z"}},
		{"other rounds with the same ranks", with(nil, []api.Result{ended("a", 2), ended("b", 1)}), with([]string{"a"}, []api.Result{stateOf("b", "dsq"), stateOf("a", "dsq")}), nil},
	} {
		l, e := result.Changed(row.a, row.b)
		want(t, "who has changed: "+row.what, l, row.l)
		want(t, "the error of Changed: "+row.what, e, api.OK)
	}
}

// P7.2: all functions of contests against the model.
func TestContestsOfAnyKind(t *testing.T) {
	d := draw(2)
	for range 3000 {
		c, other := d.contest(9), d.contest(9)
		want(t, "CheckContest", result.CheckContest(c), api.OK)
		places, _ := result.Standing(c)
		want(t, "the standing", places, modelStanding(c))
		ties, _ := result.Ties(c)
		want(t, "the ties", ties, modelTies(c))
		changed, _ := result.Changed(c, other)
		want(t, "who has changed", changed, modelChanged(c, other))
		for range len(c.Rounds[0]) {
			a, b := c.Rounds[0][d.Intn(len(c.Rounds[0]))].Climber, c.Rounds[0][d.Intn(len(c.Rounds[0]))].Climber
			if a == b {
				continue
			}
			number, order, e := result.Decides(c, a, b)
			wantedNumber, wantedOrder := modelDecides(c, a, b)
			want(t, "what decides", number, wantedNumber)
			want(t, "who is better", order, wantedOrder)
			want(t, "the error of Decides", e, api.OK)
		}
	}
}
