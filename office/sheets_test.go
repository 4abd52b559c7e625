package office_test

import (
	"math"
	"slices"
	"testing"

	"crux/api"
	"crux/office"
)

// P10.1: example 1.
func TestExampleOfRanks(t *testing.T) {
	s := sheet(2, has("ann", 34, 1), has("ben", 34, 0), is("cat", "dns"))
	gives(t, "the ranks", []int{1, 2, 3})(office.Ranks(s))
	s.Results[1] = has("ben", 35, 0)
	gives(t, "the ranks with a better ben", []int{2, 1, 3})(office.Ranks(s))
}

// P10.1: the first difference decides, a result with a state is behind all others, and states are in their order.
func TestRanks(t *testing.T) {
	for _, row := range []struct {
		what   string
		values int
		l      []api.Result
		ranks  []int
	}{
		{"nobody", 1, nil, nil},
		{"one climber", 1, []api.Result{has("ann", 0)}, []int{1}},
		{"one climber with a state", 1, []api.Result{is("ann", "dsq")}, []int{1}},
		{"the greater value is better", 1, []api.Result{has("ann", -2), has("ben", -1), has("cat", 0), has("dan", 1)}, []int{4, 3, 2, 1}},
		{"the first difference", 3, []api.Result{has("ann", 1, 9, 9), has("ben", 2, 0, 0), has("cat", 2, 0, 1), has("dan", 2, 1, -5)}, []int{4, 3, 2, 1}},
		{"equal ones", 2, []api.Result{has("ann", 1, 1), has("ben", 1, 2), has("cat", 1, 2), has("dan", 1, 1), has("eva", 0, 9)}, []int{3, 1, 1, 3, 5}},
		{"states", 1, []api.Result{is("ann", "dsq"), is("ben", "dns"), is("cat", "dnf"), has("dan", -api.MaxNumber)}, []int{4, 2, 3, 1}},
		{"equal states", 1, []api.Result{is("ann", "dnf"), is("ben", "dsq"), is("cat", "dnf"), is("dan", "dns"), is("eva", "dns")}, []int{3, 5, 3, 1, 1}},
		{"the range of values", 1, []api.Result{has("ann", -api.MaxNumber), has("ben", api.MaxNumber)}, []int{2, 1}},
		{"the most values", 16, []api.Result{
			has("ann", 0, 0, 0, 0, 0, 0, 0, 0, 0, 0, 0, 0, 0, 0, 0, 0),
			has("ben", 0, 0, 0, 0, 0, 0, 0, 0, 0, 0, 0, 0, 0, 0, 0, 1),
		}, []int{2, 1}},
	} {
		s := sheet(row.values, row.l...)
		gives(t, row.what, row.ranks)(office.Ranks(s))
		s.State = "closed"
		gives(t, row.what+", closed", row.ranks)(office.Ranks(s))
	}
}

// with returns a sheet of ann that is changed.
func with(change func(s *office.Sheet)) office.Sheet {
	s := sheet(1, has("ann", 1))
	change(&s)
	return s
}

// P10.1: the errors of sheets in their order, also in an entry, an archive, and a sheet that is posted.
func TestErrorsOfSheets(t *testing.T) {
	results := func(l ...api.Result) office.Sheet { return sheet(1, l...) }
	for _, row := range []struct {
		what string
		s    office.Sheet
		e    api.Errno
	}{
		{"an open sheet", sheet(1, has("ann", 1)), api.OK},
		{"a closed sheet", with(func(s *office.Sheet) { s.State = "closed" }), api.OK},
		{"a closed sheet without results", with(func(s *office.Sheet) { s.State, s.Results = "closed", nil }), api.OK},
		{"nothing", office.Sheet{}, api.ErrName},
		{"the longest names", with(func(s *office.Sheet) { s.Round, s.Results[0].Climber = longName, longName }), api.OK},
		{"a round that is too long", with(func(s *office.Sheet) { s.Round = tooLong }), api.ErrName},
		{"the round before the number of values", with(func(s *office.Sheet) { s.Round, s.Values = "1", 0 }), api.ErrName},
		{"no values", with(func(s *office.Sheet) { s.Values = 0 }), api.ErrRange},
		{"too many values", with(func(s *office.Sheet) { s.Values = 17 }), api.ErrRange},
		{"a negative number of values", with(func(s *office.Sheet) { s.Values = math.MinInt }), api.ErrRange},
		{"the number of values before the state", with(func(s *office.Sheet) { s.Values, s.State = 17, "" }), api.ErrRange},
		{"no state", with(func(s *office.Sheet) { s.State = "" }), api.ErrKind},
		{"another state", with(func(s *office.Sheet) { s.State = "Open" }), api.ErrKind},
		{"the state before too many results", with(func(s *office.Sheet) { s.State, s.Results = "done", many(161) }), api.ErrKind},
		{"the most results", results(many(160)...), api.OK},
		{"too many results", results(many(161)...), api.ErrMany},
		{"too many results before a wrong one", results(make([]api.Result, 161)...), api.ErrMany},
		{"no climber", results(has("", 1)), api.ErrName},
		{"a climber that is too long", results(has(tooLong, 1)), api.ErrName},
		{"the climber before the state", results(api.Result{Climber: "a b", State: "dnx"}), api.ErrName},
		{"a climber twice", results(has("ann", 1), has("ben", 1), has("ann", 2)), api.ErrTwice},
		{"no name twice", results(has("ann", 1), has("", 1), has("", 1)), api.ErrName},
		{"a climber twice before the state", results(has("ann", 1), api.Result{Climber: "ann", State: "dnx"}), api.ErrTwice},
		{"another state of a result", results(is("ann", "dnx")), api.ErrKind},
		{"a state in great letters", results(is("ann", "DNS")), api.ErrKind},
		{"the state before the number of values", results(api.Result{Climber: "ann", State: "open", Values: []int{1, 2}}), api.ErrKind},
		{"the states", results(is("ann", "dns"), is("ben", "dnf"), is("cat", "dsq")), api.OK},
		{"a state and values", results(api.Result{Climber: "ann", State: "dns", Values: []int{1}}), api.ErrShape},
		{"a state and no list", results(api.Result{Climber: "ann", State: "dns", Values: []int{}}), api.OK},
		{"no state and no values", results(has("ann")), api.ErrShape},
		{"too few values of a result", sheet(3, has("ann", 1, 2)), api.ErrShape},
		{"too many values of a result", sheet(3, has("ann", 1, 2, 3, 4)), api.ErrShape},
		{"the number of values before a range", results(has("ann", api.MaxNumber+1, 1)), api.ErrShape},
		{"the greatest and the least value", sheet(2, has("ann", api.MaxNumber, -api.MaxNumber)), api.OK},
		{"a value above", sheet(2, has("ann", 0, api.MaxNumber+1)), api.ErrRange},
		{"a value below", sheet(2, has("ann", -api.MaxNumber-1, 0)), api.ErrRange},
		{"the greatest integer", results(has("ann", math.MaxInt)), api.ErrRange},
		{"the least integer", results(has("ann", math.MinInt)), api.ErrRange},
		{"the first one with an error", results(has("ann", math.MaxInt), has("", 1)), api.ErrRange},
		{"the first one with an error, a name", results(has("ann", 1), has("", 1), has("ben")), api.ErrName},
	} {
		want(t, "CheckSheet: "+row.what, office.CheckSheet(row.s), row.e)
		want(t, "the model: "+row.what, modelSheet(row.s), row.e)
		fails(t, "Ranks: "+row.what, row.e)(office.Ranks(row.s))
		want(t, "CheckEntry: "+row.what, office.CheckEntry(entry("hall", 1, 1, row.s)), row.e)
		want(t, "CheckArchive: "+row.what, office.CheckArchive(archive(entry("gym", 1, 1, sheet(1)), entry("hall", 1, 1, row.s))), row.e)
		fails(t, "Post: "+row.what, row.e)(office.Post(archive(), "hall", row.s))
	}
}

// P10.1: ranks as in the model.
func TestRanksLikeModel(t *testing.T) {
	d := draw(1)
	tied := 0
	for range 5000 {
		s := d.sheet()
		ranks := sure(office.Ranks(s))
		gives(t, "the ranks of the model", ranks)(modelRanks(s))
		if slices.Sort(ranks); len(slices.Compact(ranks)) < len(s.Results) {
			tied++
		}
	}
	want(t, "whether there were equal results", tied > 500, true)
}
