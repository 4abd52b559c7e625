package season_test

import (
	"math"
	"slices"
	"testing"

	"crux/api"
	"crux/season"
)

// P8.3: example 4.
func TestExampleOfTours(t *testing.T) {
	best, e := season.Calendar(tour())
	want(t, "the calendar", best, []int{2, 0, 1})
	want(t, "its error", e, api.OK)
	for _, row := range []struct {
		order  []int
		travel int
		begins []int
		e      api.Errno
	}{
		{[]int{2, 0, 1}, 3, []int{5, 10, 0}, api.OK},
		{[]int{2, 1, 0}, 5, []int{11, 7, 0}, api.OK},
		{[]int{0, 1, 2}, 3, nil, api.ErrInfeasible},
		{[]int{0, 2, 1}, 12, nil, api.ErrInfeasible},
		{[]int{1, 2, 0}, 2, nil, api.ErrInfeasible},
	} {
		travel, e := season.Travel(tour(), row.order)
		want(t, "the travel", travel, row.travel)
		want(t, "the error of the travel", e, api.OK)
		begins, e := season.Begins(tour(), row.order)
		want(t, "the begins", begins, row.begins)
		want(t, "the error of the begins", e, row.e)
	}
}

// P8.3: the errors of a tour in their order.
func TestErrorsOfTours(t *testing.T) {
	of := func(l ...season.Host) season.Tour { return season.Tour{Hosts: l, Travel: square(len(l), 1)} }
	far := func(days int) season.Tour {
		t := of(hosts(3)...)
		t.Travel[2][1] = days
		return t
	}
	same := far(1)
	same.Travel[1][1] = -1
	for _, row := range []struct {
		what string
		t    season.Tour
		e    api.Errno
	}{
		{"example 4", tour(), api.OK},
		{"no hosts", season.Tour{}, api.ErrEmpty},
		{"no hosts before the rows", season.Tour{Travel: square(1, -1)}, api.ErrEmpty},
		{"one host", of(host("x", 1, 0, 0)), api.OK},
		{"the most hosts", of(hosts(32)...), api.OK},
		{"one more", of(hosts(33)...), api.ErrMany},
		{"too many hosts before a wrong one", of(make([]season.Host, 33)...), api.ErrMany},
		{"no name", of(host("", 1, 0, 0)), api.ErrName},
		{"the longest name", of(host(longName, 1, 0, 0)), api.OK},
		{"a name that is too long", of(host(tooLong, 1, 0, 0)), api.ErrName},
		{"no name before the days", of(host("", 0, 0, 0)), api.ErrName},
		{"a name twice", of(host("x", 1, 0, 0), host("y", 1, 0, 0), host("x", 1, 0, 0)), api.ErrTwice},
		{"a name twice before the days", of(host("x", 1, 0, 0), host("x", 0, 1, 0)), api.ErrTwice},
		{"no days", of(host("x", 0, 0, 0)), api.ErrRange},
		{"the most days", of(host("x", 99999, 0, 0)), api.OK},
		{"one day more", of(host("x", 100000, 0, 0)), api.ErrRange},
		{"From below", of(host("x", 1, -1, 0)), api.ErrRange},
		{"From above", of(host("x", 1, 100000, 100000)), api.ErrRange},
		{"To below", of(host("x", 1, 0, -1)), api.ErrRange},
		{"To above", of(host("x", 1, 0, 100000)), api.ErrRange},
		{"the last day", of(host("x", 1, 99999, 99999)), api.OK},
		{"From after To", of(host("x", 1, 1, 0)), api.ErrOrder},
		{"the days before From after To", of(host("x", 0, 1, 0)), api.ErrRange},
		{"the greatest integers", of(host("x", math.MaxInt, math.MaxInt, math.MinInt)), api.ErrRange},
		{"the first host with an error", of(host("x", 1, 1, 0), host("", 1, 0, 0)), api.ErrOrder},
		{"the hosts before the rows", season.Tour{Hosts: []season.Host{host("x", 1, 1, 0)}}, api.ErrOrder},
		{"no rows", season.Tour{Hosts: hosts(2)}, api.ErrShape},
		{"too few rows", season.Tour{Hosts: hosts(3), Travel: square(3, 1)[:2]}, api.ErrShape},
		{"too many rows", season.Tour{Hosts: hosts(2), Travel: square(3, 1)}, api.ErrShape},
		{"the number of rows before a number", season.Tour{Hosts: hosts(2), Travel: [][]int{{-1, 1}}}, api.ErrShape},
		{"a row that is too short", season.Tour{Hosts: hosts(2), Travel: [][]int{{1, 1}, {1}}}, api.ErrShape},
		{"a row that is too long", season.Tour{Hosts: hosts(2), Travel: [][]int{{1, 1, 1}, {1, 1}}}, api.ErrShape},
		{"a row that is nil", season.Tour{Hosts: hosts(1), Travel: [][]int{nil}}, api.ErrShape},
		{"the length of a row before its numbers", season.Tour{Hosts: hosts(2), Travel: [][]int{{-1}, {1, 1}}}, api.ErrShape},
		{"a number of a row before the length of the next one", season.Tour{Hosts: hosts(2), Travel: [][]int{{1, -1}, {1}}}, api.ErrRange},
		{"the length of a row before a number of the next one", season.Tour{Hosts: hosts(2), Travel: [][]int{{1}, {1, -1}}}, api.ErrShape},
		{"no travel", far(0), api.OK},
		{"the longest travel", far(99999), api.OK},
		{"travel above", far(100000), api.ErrRange},
		{"travel below", far(-1), api.ErrRange},
		{"travel from a host to itself", same, api.ErrRange},
	} {
		want(t, "CheckTour: "+row.what, season.CheckTour(row.t), row.e)
		want(t, "the model: "+row.what, modelTour(row.t), row.e)
		for _, order := range [][]int{{-1}, {0, 0, 0, 0}} {
			_, travel := season.Travel(row.t, order)
			_, begins := season.Begins(row.t, order)
			orderError := api.ErrShape
			if len(row.t.Hosts) == 1 && len(order) == 1 {
				orderError = api.ErrUnknown
			}
			want(t, "Travel: "+row.what, travel, first(row.e, orderError))
			want(t, "Begins: "+row.what, begins, first(row.e, orderError))
		}
		_, e := season.Calendar(row.t)
		want(t, "Calendar: "+row.what, e, first(row.e, when(len(row.t.Hosts) > 8, api.ErrLimit)))
	}
}

// P8.3: the errors of an order.
func TestErrorsOfOrders(t *testing.T) {
	for _, row := range []struct {
		what  string
		order []int
		e     api.Errno
	}{
		{"example 4", []int{2, 0, 1}, api.OK},
		{"no numbers", nil, api.ErrShape},
		{"too few numbers", []int{2, 0}, api.ErrShape},
		{"too many numbers", []int{2, 0, 1, 0}, api.ErrShape},
		{"the shape before an unknown host", []int{3, 0}, api.ErrShape},
		{"a negative number", []int{2, -1, 1}, api.ErrUnknown},
		{"the number behind the last host", []int{2, 0, 3}, api.ErrUnknown},
		{"the greatest integer", []int{math.MaxInt, 0, 1}, api.ErrUnknown},
		{"the least integer", []int{math.MinInt, 0, 1}, api.ErrUnknown},
		{"a host twice", []int{2, 0, 2}, api.ErrTwice},
		{"a host twice, one behind the other", []int{2, 2, 0}, api.ErrTwice},
		{"an unknown host twice", []int{3, 3, 0}, api.ErrUnknown},
		{"the first number with an error", []int{2, 2, 3}, api.ErrTwice},
		{"the first number with an error", []int{2, 3, 2}, api.ErrUnknown},
	} {
		_, e := season.Travel(tour(), row.order)
		want(t, "Travel: "+row.what, e, row.e)
		_, e = season.Begins(tour(), row.order)
		want(t, "Begins: "+row.what, e, row.e)
		want(t, "the model: "+row.what, modelOrder(tour(), row.order), row.e)
	}
}

// P8.3: the travel and the begins of orders that are not short.
func TestLongOrders(t *testing.T) {
	l := season.Tour{Hosts: hosts(32), Travel: square(32, api.MaxDay)}
	for i := range l.Travel {
		l.Travel[i][i] = 7 // nobody travels from a host to itself
	}
	order := make([]int, 32)
	for i := range order {
		order[i] = 31 - i
	}
	travel, e := season.Travel(l, order)
	want(t, "the longest travel", travel, 31*99999)
	want(t, "the error", e, api.OK)
	_, e = season.Begins(l, order)
	want(t, "the longest travel is too long", e, api.ErrInfeasible)
	l.Travel = square(32, 3)
	begins, e := season.Begins(l, order)
	want(t, "the error of the begins", e, api.OK)
	want(t, "the first begin", begins[31], 0)
	want(t, "the last begin", begins[0], 31*4)
	l.Hosts[0].To = 31*4 - 1
	_, e = season.Begins(l, order)
	want(t, "one day too late", e, api.ErrInfeasible)
	l.Hosts[0].From, l.Hosts[0].To = 31*4+9, 31*4+9
	begins, _ = season.Begins(l, order)
	want(t, "the last begin with a pause", begins[0], 31*4+9)
	_, e = season.Calendar(l)
	want(t, "the calendar of many hosts", e, api.ErrLimit)
}

// P8.3: a contest of one host, and one that begins on the last of its days.
func TestBegins(t *testing.T) {
	alone := season.Tour{Hosts: []season.Host{host("x", 9, 5, 5)}, Travel: [][]int{{8}}}
	begins, e := season.Begins(alone, []int{0})
	want(t, "the begin of one host", begins, []int{5})
	want(t, "the error of one host", e, api.OK)
	travel, e := season.Travel(alone, []int{0})
	want(t, "the travel of one host", travel, 0)
	want(t, "the error of the travel", e, api.OK)
	best, e := season.Calendar(alone)
	want(t, "the calendar of one host", best, []int{0})
	want(t, "the error of the calendar", e, api.OK)
	for to, e := range map[int]api.Errno{8: api.ErrInfeasible, 9: api.OK, 10: api.OK} {
		two := season.Tour{Hosts: []season.Host{host("x", 3, 4, 9), host("y", 1, 0, to)}, Travel: [][]int{{0, 2}, {99, 0}}}
		_, got := season.Begins(two, []int{0, 1})
		want(t, "the error with a host until some day", got, e)
	}
	late := season.Tour{Hosts: []season.Host{host("x", 99999, 99999, 99999), host("y", 99999, 99999, 99999)}, Travel: square(2, 99999)}
	_, e = season.Begins(late, []int{0, 1})
	want(t, "far behind the last day", e, api.ErrInfeasible)
	_, e = season.Calendar(late)
	want(t, "no order is possible", e, api.ErrInfeasible)
}

// P8.3: of equal orders the lexicographically first one, of all that are possible.
func TestCalendar(t *testing.T) {
	equal := season.Tour{Hosts: hosts(8), Travel: square(8, 5)}
	last := season.Tour{Hosts: hosts(8), Travel: square(8, 5)}
	for i, row := range last.Travel[1:] {
		row[i] = 4 // to the host before
	}
	none := season.Tour{Hosts: hosts(8), Travel: square(8, 0)}
	none.Hosts[7].To = 0
	first := season.Tour{Hosts: hosts(4), Travel: square(4, 1)}
	first.Hosts[2].To = 0
	first.Hosts[1].To = 1
	cheap := season.Tour{Hosts: hosts(3), Travel: [][]int{{0, 1, 2}, {2, 0, 1}, {1, 1, 0}}}
	for _, row := range []struct {
		what string
		t    season.Tour
		best []int
	}{
		{"all orders are equal", equal, []int{0, 1, 2, 3, 4, 5, 6, 7}},
		{"the last one is the best", last, []int{7, 6, 5, 4, 3, 2, 1, 0}},
		{"the last host has to be first", none, []int{7, 0, 1, 2, 3, 4, 5, 6}},
		{"two hosts on a day on which one is possible", first, nil},
		{"several with the least travel", cheap, []int{0, 1, 2}},
	} {
		got, e := season.Calendar(row.t)
		want(t, "Calendar: "+row.what, got, row.best)
		want(t, "the error: "+row.what, e, when(row.best == nil, api.ErrInfeasible))
		model, _ := modelCalendar(row.t)
		want(t, "the model: "+row.what, model, row.best)
	}
	for n, e := range map[int]api.Errno{8: api.ErrInfeasible, 9: api.ErrLimit, 32: api.ErrLimit} {
		_, got := season.Calendar(season.Tour{Hosts: hosts(n), Travel: square(n, 99999)})
		want(t, "the limit before that no order is possible", got, e)
	}
}

// P8.3: tours of any kind against all orders.
func TestToursOfAnyKind(t *testing.T) {
	d := draw(4)
	counts := map[bool]int{}
	for range 3000 {
		l := d.tour(6)
		got, e := season.Calendar(l)
		model, modelError := modelCalendar(l)
		want(t, "any calendar", got, model)
		want(t, "any error", e, modelError)
		counts[e == api.OK && !slices.IsSorted(got)]++
		order := d.Perm(len(l.Hosts))
		travel, e := season.Travel(l, order)
		modelTravel, modelError := modelTravel(l, order)
		want(t, "any travel", travel, modelTravel)
		want(t, "any error of travel", e, modelError)
		begins, e := season.Begins(l, order)
		modelBegins, modelError := modelBegins(l, order)
		want(t, "any begins", begins, modelBegins)
		want(t, "any error of begins", e, modelError)
	}
	want(t, "whether many calendars are not the first order", counts[true] > 500, true)
}
