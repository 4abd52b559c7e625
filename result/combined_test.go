package result_test

import (
	"slices"
	"testing"

	"crux/api"
	"crux/result"
)

// P7.3: the errors of disciplines and of the kind, in their order.
func TestErrorsOfCombined(t *testing.T) {
	one, wrong, other := []api.Result{ended("a", 1)}, []api.Result{ended("", 1)}, []api.Result{ended("b", 1)}
	for _, row := range []struct {
		what string
		l    [][]api.Result
		kind string
		e    api.Errno
	}{
		{"no disciplines", nil, "x", api.ErrEmpty},
		{"the most disciplines", slices.Repeat([][]api.Result{one}, 8), "sum", api.OK},
		{"one more", slices.Repeat([][]api.Result{one}, 9), "sum", api.ErrMany},
		{"too many before a wrong one", slices.Repeat([][]api.Result{wrong}, 9), "sum", api.ErrMany},
		{"nobody", [][]api.Result{nil, nil}, "product", api.OK},
		{"a wrong discipline", [][]api.Result{one, wrong}, "sum", api.ErrName},
		{"too many results", [][]api.Result{round(160), round(161)}, "sum", api.ErrMany},
		{"the most results", [][]api.Result{round(160), round(160)}, "sum", api.OK},
		{"too few results", [][]api.Result{one, nil}, "sum", api.ErrShape},
		{"more results", [][]api.Result{one, {ended("a", 1), ended("b", 1)}}, "sum", api.ErrShape},
		{"another climber", [][]api.Result{one, other}, "sum", api.ErrUnknown},
		{"an error of results before their number", [][]api.Result{one, {ended("a", 1), ended("b")}}, "sum", api.ErrShape},
		{"a name twice before the number of results", [][]api.Result{one, {ended("a", 1), ended("a", 1)}}, "sum", api.ErrTwice},
		{"the number of results before another climber", [][]api.Result{one, {ended("a", 1), ended("c", 1)}}, "sum", api.ErrShape},
		{"the first discipline with an error", [][]api.Result{one, other, wrong}, "sum", api.ErrUnknown},
		{"other values in each discipline", [][]api.Result{one, {ended("a", 1, 2)}, {stateOf("a", "dns")}}, "sum", api.OK},
		{"a wrong kind", both(), "mean", api.ErrKind},
		{"no kind", both(), "", api.ErrKind},
		{"capitals", both(), "Sum", api.ErrKind},
		{"the disciplines before the kind", [][]api.Result{one, other}, "", api.ErrUnknown},
	} {
		totals, e := result.Combined(row.l, row.kind)
		want(t, "the error of Combined: "+row.what, e, row.e)
		want(t, "whether there are totals: "+row.what, len(totals) > 0, e == api.OK && len(row.l[0]) > 0)
	}
}

// P7.3: totals with ranks.
func TestCombined(t *testing.T) {
	halves := [][]api.Result{
		{ended("a", 1), ended("b", 1), ended("c", 1), stateOf("d", "dns"), stateOf("e", "dns")},
		{ended("c", 1), stateOf("a", "dsq"), ended("b", 2), ended("e", 4), stateOf("d", "dnf")},
	}
	turned := [][]api.Result{
		{ended("a", 2), ended("b", 1)},
		{ended("a", 1), ended("b", 2)},
	}
	apart := [][]api.Result{
		{ended("a", 2), ended("b", 3), ended("c", 1)},
		{ended("a", 2), ended("b", 1), ended("c", 3)},
	}
	for _, row := range []struct {
		what   string
		l      [][]api.Result
		kind   string
		totals []result.Total
	}{
		{"nobody", [][]api.Result{nil}, "sum", nil},
		{"one discipline", [][]api.Result{four()}, "product", []result.Total{{"ann", "3/2", 1}, {"cat", "3/2", 1}, {"bea", "3", 3}, {"dan", "4", 4}}},
		{"one discipline", [][]api.Result{four()}, "sum", []result.Total{{"ann", "3/2", 1}, {"cat", "3/2", 1}, {"bea", "3", 3}, {"dan", "4", 4}}},
		{"example 4", both(), "product", []result.Total{{"ann", "3", 1}, {"bea", "3", 2}, {"cat", "9/2", 3}}},
		{"example 4", both(), "sum", []result.Total{{"bea", "7/2", 1}, {"ann", "4", 2}, {"cat", "9/2", 3}}},
		{"shared ranks", halves, "sum", []result.Total{{"b", "4", 1}, {"c", "5", 2}, {"e", "11/2", 3}, {"a", "7", 4}, {"d", "17/2", 5}}},
		{"shared ranks", halves, "product", []result.Total{{"b", "4", 1}, {"e", "9/2", 2}, {"c", "6", 3}, {"a", "10", 4}, {"d", "18", 5}}},
		{"ranks the other way round", turned, "sum", []result.Total{{"a", "3", 1}, {"b", "3", 1}}},
		{"ranks the other way round", turned, "product", []result.Total{{"a", "2", 1}, {"b", "2", 1}}},
		{"the least number first", apart, "sum", []result.Total{{"b", "4", 1}, {"c", "4", 1}, {"a", "4", 3}}},
		{"the least number first", apart, "product", []result.Total{{"b", "3", 1}, {"c", "3", 1}, {"a", "4", 3}}},
	} {
		totals, e := result.Combined(row.l, row.kind)
		want(t, "the totals: "+row.what+", "+row.kind, totals, row.totals)
		want(t, "the error of Combined: "+row.what, e, api.OK)
	}
}

// P7.3: the greatest total has more digits than an integer.
func TestGreatestProduct(t *testing.T) {
	var l []api.Result
	for i, name := range names(160) {
		l = append(l, ended(name, -i))
	}
	totals, e := result.Combined(slices.Repeat([][]api.Result{l}, 8), "product")
	want(t, "the error of Combined", e, api.OK)
	want(t, "the last total", totals[159], result.Total{Climber: "c160", Number: "429496729600000000", Rank: 160})
	want(t, "the total before", totals[158], result.Total{Climber: "c159", Number: "408485828788939521", Rank: 159})
	totals, e = result.Combined(slices.Repeat([][]api.Result{round(160)}, 8), "product")
	want(t, "the error of Combined", e, api.OK)
	want(t, "a total in which all are equal", totals[0].Number, api.Rat("451447246258894081/256"))
}

// P7.3: Combined against the model.
func TestDisciplinesOfAnyKind(t *testing.T) {
	d := draw(3)
	for range 500 {
		l := d.disciplines(4, 7)
		if d.Intn(20) == 0 {
			l = d.disciplines(8, 12)
		}
		for _, kind := range []string{"product", "sum"} {
			totals, e := result.Combined(l, kind)
			want(t, "the totals by the "+kind, totals, modelCombined(l, kind))
			want(t, "the error of Combined", e, api.OK)
		}
	}
}
