package start_test

import (
	"math"
	"slices"
	"testing"

	"crux/api"
	"crux/start"
)

// manyResults returns n results without values.
func manyResults(n int) []api.Result {
	var l []api.Result
	for _, name := range names(n) {
		l = append(l, result(name))
	}
	return l
}

// P6.5: the errors of results, in their order.
func TestCheckResults(t *testing.T) {
	a := result("a", 1, 2)
	eight := []int{1, 2, 3, 4, 5, 6, 7, 8}
	for _, row := range []struct {
		what string
		l    []api.Result
		e    api.Errno
	}{
		{"no results", nil, api.OK},
		{"the results of the chapter", fiveResults(), api.OK},
		{"the most", manyResults(160), api.OK},
		{"too many", manyResults(161), api.ErrMany},
		{"too many without names", make([]api.Result, 161), api.ErrMany},
		{"all states", []api.Result{a, stateOf("b", "dns"), stateOf("c", "dnf"), stateOf("d", "dsq")}, api.OK},
		{"states alone", []api.Result{stateOf("b", "dns"), stateOf("c", "dnf")}, api.OK},
		{"a state at first", []api.Result{stateOf("b", "dns"), a}, api.OK},
		{"a state with an empty list", []api.Result{{Climber: "a", State: "dns", Values: []int{}}}, api.OK},
		{"the least and the greatest value", []api.Result{result("a", -api.MaxNumber, api.MaxNumber)}, api.OK},
		{"the most values", []api.Result{result("a", eight...)}, api.OK},
		{"the longest name", []api.Result{result(longName, 1)}, api.OK},
		{"the zero value", make([]api.Result, 1), api.ErrName},
		{"a name that is none", []api.Result{a, {Climber: "1", State: "x", Values: []int{math.MaxInt}}}, api.ErrName},
		{"a name that is too long", []api.Result{result(tooLong, 1)}, api.ErrName},
		{"a name twice", []api.Result{a, result("b", 1, 2), {Climber: "a", State: "x"}}, api.ErrTwice},
		{"a name twice with a state", []api.Result{stateOf("a", "dns"), stateOf("a", "dns")}, api.ErrTwice},
		{"a state that is none", []api.Result{{Climber: "a", State: "DNS", Values: []int{1}}}, api.ErrKind},
		{"a blank state", []api.Result{stateOf("a", " ")}, api.ErrKind},
		{"a state and a value", []api.Result{{Climber: "a", State: "dnf", Values: []int{0}}}, api.ErrForm},
		{"a state and too many values", []api.Result{{Climber: "a", State: "dsq", Values: make([]int, 9)}}, api.ErrForm},
		{"too many values", []api.Result{a, result("b", append(eight, math.MaxInt)...)}, api.ErrMany},
		{"too many values at first", []api.Result{result("b", append(eight, 9)...)}, api.ErrMany},
		{"a value that is too small", []api.Result{a, result("b", -api.MaxNumber-1)}, api.ErrRange},
		{"a value that is too large", []api.Result{a, result("b", 1, 2, api.MaxNumber+1)}, api.ErrRange},
		{"the least value", []api.Result{result("b", 1, math.MinInt)}, api.ErrRange},
		{"a value too few", []api.Result{a, result("b", 1)}, api.ErrShape},
		{"a value too many", []api.Result{a, result("b", 1, 2, 3), result("", 1)}, api.ErrShape},
		{"no values behind some", []api.Result{a, result("b")}, api.ErrShape},
		{"some behind no values", []api.Result{result("b"), a}, api.ErrShape},
		{"some behind a state and no values", []api.Result{stateOf("c", "dns"), result("b"), a}, api.ErrShape},
		{"an error behind another one", []api.Result{result("", 1), a, result("b")}, api.ErrName},
	} {
		want(t, row.what, start.CheckResults(row.l), row.e)
		want(t, row.what+" by the model", modelResults(row.l), row.e)
	}
}

// P6.5: the chapter's example 7.
func TestExampleOfForward(t *testing.T) {
	on, e := start.Forward(fiveResults(), 2)
	want(t, "Forward", on, []string{"a", "b", "c"})
	want(t, "its error", e, api.OK)
	on, e = start.Replace(fiveResults(), 2, []string{"a"})
	want(t, "Replace without a", on, []string{"b", "c"})
	want(t, "its error", e, api.OK)
	on, e = start.Replace(fiveResults(), 2, []string{"a", "b"})
	want(t, "Replace without a and b", on, []string{"c", "d"})
	want(t, "its error", e, api.OK)
}

// P6.5: who goes on: the better ones first, equal ones in the order of the list, all who are tied for the last place included.
func TestForward(t *testing.T) {
	tied := []api.Result{result("e", 1), result("d", 2), stateOf("x", "dsq"), result("c", 2), result("b", 2), result("a", 3)}
	for _, row := range []struct {
		what  string
		l     []api.Result
		quota int
		on    []string
	}{
		{"no results", nil, 8, nil},
		{"nobody goes on", tied, 0, nil},
		{"the best one", tied, 1, []string{"a"}},
		{"tied for the second place", tied, 2, []string{"a", "d", "c", "b"}},
		{"tied for the third place", tied, 3, []string{"a", "d", "c", "b"}},
		{"tied for the fourth place", tied, 4, []string{"a", "d", "c", "b"}},
		{"all without a state", tied, 5, []string{"a", "d", "c", "b", "e"}},
		{"a large quota", tied, 160, []string{"a", "d", "c", "b", "e"}},
		{"states alone", []api.Result{stateOf("a", "dns"), stateOf("b", "dnf"), stateOf("c", "dsq")}, 160, nil},
		{"no values", []api.Result{result("b"), result("a"), stateOf("c", "dns")}, 1, []string{"b", "a"}},
		{"the first difference", []api.Result{result("a", 1, 9), result("b", 2, 0), result("c", 2, 1)}, 2, []string{"c", "b"}},
		{"a later difference", []api.Result{result("a", 5, -7, 3), result("b", 5, -7, 4), result("c", 5, -8, 9)}, 1, []string{"b"}},
		{"values below 0", []api.Result{result("a", -2), result("b", -1), result("c", -api.MaxNumber)}, 2, []string{"b", "a"}},
	} {
		on, e := start.Forward(row.l, row.quota)
		want(t, row.what, on, row.on)
		want(t, row.what+": the error", e, api.OK)
		want(t, row.what+" by the model", modelForward(row.l, row.quota), row.on)
	}
}

// P6.5: who goes on when some have withdrawn, also such as would not have gone on.
func TestReplace(t *testing.T) {
	for _, row := range []struct {
		what  string
		quota int
		out   []string
		on    []string
	}{
		{"nobody withdraws", 2, nil, []string{"a", "b", "c"}},
		{"one of the tied ones", 2, []string{"c"}, []string{"a", "b"}},
		{"one who does not go on", 2, []string{"d"}, []string{"a", "b", "c"}},
		{"one with a state", 2, []string{"e"}, []string{"a", "b", "c"}},
		{"nobody goes on", 0, []string{"a"}, nil},
		{"three withdraw", 1, []string{"c", "a", "b"}, []string{"d"}},
		{"a state does not follow", 2, []string{"c", "a", "b"}, []string{"d"}},
		{"all withdraw", 2, []string{"e", "d", "c", "b", "a"}, nil},
		{"a large quota", 160, []string{"b"}, []string{"a", "c", "d"}},
	} {
		on, e := start.Replace(fiveResults(), row.quota, row.out)
		want(t, row.what, on, row.on)
		want(t, row.what+": the error", e, api.OK)
	}
	long := manyResults(160)
	on, e := start.Replace(long, 160, names(159))
	want(t, "the last one", on, []string{"c160"})
	want(t, "its error", e, api.OK)
}

// P6.5: the errors of results, of a quota, and of those who have withdrawn.
func TestErrorsOfForward(t *testing.T) {
	wrong := []api.Result{result("")}
	for _, row := range []struct {
		what    string
		l       []api.Result
		quota   int
		out     []string
		forward api.Errno
		replace api.Errno
	}{
		{"the least quota", nil, 0, nil, api.OK, api.OK},
		{"the greatest quota", nil, 160, nil, api.OK, api.OK},
		{"results with an error", wrong, -1, []string{"x"}, api.ErrName, api.ErrName},
		{"a quota below 0", fiveResults(), -1, []string{"x"}, api.ErrRange, api.ErrRange},
		{"a quota that is too large", fiveResults(), 161, []string{"x"}, api.ErrRange, api.ErrRange},
		{"the least number as a quota", fiveResults(), math.MinInt, nil, api.ErrRange, api.ErrRange},
		{"the greatest number as a quota", fiveResults(), math.MaxInt, nil, api.ErrRange, api.ErrRange},
		{"all have withdrawn", manyResults(160), 1, names(160), api.OK, api.OK},
		{"too many have withdrawn", manyResults(160), 1, names(161), api.OK, api.ErrMany},
		{"too many unknown ones", nil, 1, make([]string, 161), api.OK, api.ErrMany},
		{"an unknown one", fiveResults(), 1, []string{"a", "x", "a"}, api.OK, api.ErrUnknown},
		{"one without a name", fiveResults(), 1, []string{""}, api.OK, api.ErrUnknown},
		{"an unknown one twice", fiveResults(), 1, []string{"x", "x"}, api.OK, api.ErrUnknown},
		{"one twice", fiveResults(), 1, []string{"a", "e", "a", "x"}, api.OK, api.ErrTwice},
		{"one of nobody", nil, 1, []string{"a"}, api.OK, api.ErrUnknown},
	} {
		on, e := start.Forward(row.l, row.quota)
		want(t, row.what+": Forward", e, row.forward)
		want(t, row.what+": who goes on beside an error", e == api.OK || on == nil, true)
		on, e = start.Replace(row.l, row.quota, row.out)
		want(t, row.what+": Replace", e, row.replace)
		want(t, row.what+": who replaces beside an error", e == api.OK || on == nil, true)
	}
}

// P6.5: random results by a second implementation.
func TestForwardByTheModel(t *testing.T) {
	d := draw(6)
	for range 5000 {
		l := d.results(12)
		quota := d.Intn(8)
		on, e := start.Forward(l, quota)
		want(t, "Forward", on, modelForward(l, quota))
		want(t, "its error", e, api.OK)
		var out []string
		for _, i := range d.Perm(len(l)) {
			if d.Intn(4) == 0 {
				out = append(out, l[i].Climber)
			}
		}
		if d.Intn(9) == 0 {
			out = append(out, []string{"c1", "x"}[d.Intn(2)])
		}
		before := slices.Clone(out)
		on, e = start.Replace(l, quota, out)
		want(t, "the error of Replace", e, modelOut(l, out))
		want(t, "those who have withdrawn", out, before)
		if e == api.OK {
			want(t, "Replace", on, modelForward(modelWithout(l, out), quota))
		}
	}
}
