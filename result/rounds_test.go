package result_test

import (
	"slices"
	"testing"

	"crux/api"
	"crux/result"
)

// P7.1: the errors of the results of a round, in their order.
func TestCheckRound(t *testing.T) {
	nine := make([]int, 9)
	for _, row := range []struct {
		what string
		l    []api.Result
		e    api.Errno
	}{
		{"nothing", nil, api.OK},
		{"example 1", four(), api.OK},
		{"the most results", round(160), api.OK},
		{"one more", round(161), api.ErrMany},
		{"too many before a wrong name", append(round(160), ended("")), api.ErrMany},
		{"the longest name", []api.Result{ended(longName)}, api.OK},
		{"a name that is too long", []api.Result{ended(tooLong)}, api.ErrName},
		{"no name", []api.Result{ended("")}, api.ErrName},
		{"all states", []api.Result{stateOf("a", "dsq"), stateOf("b", "dns"), ended("c", 1), stateOf("d", "dnf")}, api.OK},
		{"states alone", []api.Result{stateOf("a", "dsq"), stateOf("b", "dns")}, api.OK},
		{"an unknown state", []api.Result{stateOf("a", "DNS")}, api.ErrKind},
		{"a state that is a blank", []api.Result{stateOf("a", " ")}, api.ErrKind},
		{"a state and a value", []api.Result{{Climber: "a", State: "dnf", Values: []int{0}}}, api.ErrForm},
		{"no values", []api.Result{ended("a"), ended("b")}, api.OK},
		{"the most values", []api.Result{ended("a", nine[1:]...)}, api.OK},
		{"one more value", []api.Result{ended("a", nine...)}, api.ErrMany},
		{"the least and the greatest value", []api.Result{ended("a", -999999999, 999999999)}, api.OK},
		{"a value below", []api.Result{ended("a", 1, -1000000000)}, api.ErrRange},
		{"a value above", []api.Result{ended("a", 1000000000, 1)}, api.ErrRange},
		{"a climber twice", []api.Result{ended("a", 1), ended("b", 1), stateOf("a", "dns")}, api.ErrTwice},
		{"another number of values", []api.Result{ended("a", 1), ended("b", 1), ended("c", 1, 2)}, api.ErrShape},
		{"no values behind some", []api.Result{ended("a", 1), ended("b")}, api.ErrShape},
		{"some values behind none", []api.Result{ended("a"), ended("b", 1)}, api.ErrShape},
		{"a state before the first values", []api.Result{stateOf("a", "dns"), ended("b", 1, 2), ended("c", 1)}, api.ErrShape},
		{"a state between values", []api.Result{ended("a", 1), stateOf("b", "dns"), ended("c", 2)}, api.OK},
		{"the name before the state", []api.Result{stateOf("", "x")}, api.ErrName},
		{"the state before values", []api.Result{{Climber: "a", State: "x", Values: nine}}, api.ErrKind},
		{"values before their number", []api.Result{{Climber: "a", State: "dns", Values: nine}}, api.ErrForm},
		{"the number of values before their range", []api.Result{ended("a", slices.Repeat([]int{api.MaxNumber + 1}, 9)...)}, api.ErrMany},
		{"the range before the same name", []api.Result{ended("a", 1), ended("a", api.MaxNumber+1)}, api.ErrRange},
		{"the same name before the number of values", []api.Result{ended("a", 1), ended("a", 1, 2)}, api.ErrTwice},
		{"the range before the shape", []api.Result{ended("a", 1), ended("b", 1, api.MaxNumber+1)}, api.ErrRange},
		{"the first result with an error", []api.Result{ended("a", 1), ended("b"), ended("")}, api.ErrShape},
	} {
		want(t, "CheckRound: "+row.what, result.CheckRound(row.l), row.e)
		ranks, e := result.Rank(row.l)
		want(t, "the error of Rank: "+row.what, e, row.e)
		want(t, "how many ranks: "+row.what, len(ranks) > 0, e == api.OK && len(row.l) > 0)
		_, e = result.Through(row.l, -1)
		want(t, "the error of Through: "+row.what, e, first(row.e, api.ErrRange))
	}
}

// P7.1: the better one of two results.
func TestCompare(t *testing.T) {
	for _, row := range []struct {
		a, b  api.Result
		order int
		e     api.Errno
	}{
		{ended("a", 3, 2), ended("b", 3, 1), -1, api.OK},
		{ended("a", 3, 2), ended("b", 3, 2), 0, api.OK},
		{ended("a", 2, 9), ended("b", 3, 0), 1, api.OK},
		{ended("a", 0), ended("b", -1), -1, api.OK},
		{ended("a", -2), ended("b", -1), 1, api.OK},
		{ended("a", 1, 2, 3), ended("b", 1, 2, 4), 1, api.OK},
		{ended("a"), ended("b"), 0, api.OK},
		{ended("a", 1), ended("a", 2), 1, api.OK},
		{ended("a", -api.MaxNumber), stateOf("b", "dns"), -1, api.OK},
		{ended("a"), stateOf("b", "dns"), -1, api.OK},
		{stateOf("a", "dsq"), ended("b"), 1, api.OK},
		{stateOf("a", "dns"), stateOf("b", "dns"), 0, api.OK},
		{stateOf("a", "dns"), stateOf("b", "dnf"), -1, api.OK},
		{stateOf("a", "dnf"), stateOf("b", "dsq"), -1, api.OK},
		{stateOf("a", "dsq"), stateOf("b", "dns"), 1, api.OK},
		{stateOf("a", "dnf"), ended("b", 1, 2), 1, api.OK},
		{ended("a", 1), ended("b", 1, 2), 0, api.ErrShape},
		{ended("a", 2), ended("b", 1, 2), 0, api.ErrShape},
		{ended("a"), ended("b", 1), 0, api.ErrShape},
		{ended("", 1), ended("b", 1, 2), 0, api.ErrName},
		{ended("a", 1), ended("b", 1, api.MaxNumber+1), 0, api.ErrRange},
		{stateOf("a", "x"), ended("", 1, 2), 0, api.ErrKind},
		{ended("a", api.MaxNumber+1), ended("", 1, 2), 0, api.ErrRange},
		{ended("a", 1), api.Result{Climber: "b", State: "dns", Values: []int{1}}, 0, api.ErrForm},
		{ended("a", 1), ended("b", make([]int, 9)...), 0, api.ErrMany},
	} {
		order, e := result.Compare(row.a, row.b)
		want(t, "who is better", order, row.order)
		want(t, "the error of Compare", e, row.e)
	}
}

// P7.1: the ranks of results, in the order of the list.
func TestRank(t *testing.T) {
	for _, row := range []struct {
		what  string
		l     []api.Result
		ranks []int
	}{
		{"nothing", nil, nil},
		{"example 1", four(), []int{1, 3, 1, 4}},
		{"one", []api.Result{stateOf("a", "dsq")}, []int{1}},
		{"all equal", round(4), []int{1, 1, 1, 1}},
		{"all states", []api.Result{stateOf("a", "dsq"), stateOf("b", "dns"), ended("c", 1), stateOf("d", "dnf"), stateOf("e", "dns")}, []int{5, 2, 1, 4, 2}},
		{"no values", []api.Result{ended("a"), stateOf("b", "dns"), ended("c")}, []int{1, 3, 1}},
		{"the first difference", []api.Result{ended("a", 1, 9, 9), ended("b", 2, 0, 0), ended("c", 1, 9, 8), ended("d", 1, 10, -9)}, []int{3, 1, 4, 2}},
	} {
		ranks, e := result.Rank(row.l)
		want(t, "the ranks: "+row.what, ranks, row.ranks)
		want(t, "the error of Rank: "+row.what, e, api.OK)
	}
}

// P7.1: those who go on, all who are tied for the last place included.
func TestThrough(t *testing.T) {
	mixed := []api.Result{ended("a", 1), ended("b", 3), stateOf("c", "dns"), ended("d", 3), ended("e", 2), ended("f", 1)}
	for _, row := range []struct {
		what   string
		l      []api.Result
		places int
		names  []string
		e      api.Errno
	}{
		{"example 1", four(), 1, []string{"ann", "cat"}, api.OK},
		{"two places", four(), 2, []string{"ann", "cat"}, api.OK},
		{"three places", four(), 3, []string{"ann", "cat", "bea"}, api.OK},
		{"nobody with a state", four(), 160, []string{"ann", "cat", "bea"}, api.OK},
		{"no places", four(), 0, nil, api.OK},
		{"nobody", nil, 8, nil, api.OK},
		{"states alone", []api.Result{stateOf("a", "dns"), stateOf("b", "dnf")}, 2, nil, api.OK},
		{"one place", mixed, 1, []string{"b", "d"}, api.OK},
		{"a place that nobody has", mixed, 2, []string{"b", "d"}, api.OK},
		{"the third place", mixed, 3, []string{"b", "d", "e"}, api.OK},
		{"the fourth place", mixed, 4, []string{"b", "d", "e", "a", "f"}, api.OK},
		{"too few places", four(), -1, nil, api.ErrRange},
		{"too many places", four(), 161, nil, api.ErrRange},
		{"an error of the list", append(four(), ended("ann", 1, 2)), 161, nil, api.ErrTwice},
	} {
		names, e := result.Through(row.l, row.places)
		want(t, "who goes on: "+row.what, names, row.names)
		want(t, "the error of Through: "+row.what, e, row.e)
	}
}

// P7.1: all functions of rounds against the model.
func TestRoundsOfAnyKind(t *testing.T) {
	d := draw(1)
	for range 5000 {
		l := d.round(names(d.Intn(14)))
		ranks, e := result.Rank(l)
		want(t, "the ranks", ranks, modelRank(l))
		want(t, "the error of Rank", e, api.OK)
		places := d.Intn(16)
		on, e := result.Through(l, places)
		want(t, "who goes on", on, modelThrough(l, places))
		want(t, "the error of Through", e, api.OK)
		if len(l) > 0 {
			a, b := l[d.Intn(len(l))], l[d.Intn(len(l))]
			order, e := result.Compare(a, b)
			want(t, "whether a is better", order == -1, modelBetter(a, b))
			want(t, "whether b is better", order == 1, modelBetter(b, a))
			want(t, "the error of Compare", e, api.OK)
		}
	}
}
