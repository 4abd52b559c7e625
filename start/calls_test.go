package start_test

import (
	"math"
	"testing"

	"crux/api"
	"crux/start"
)

// P6.3: the chapter's example 3.
func TestExampleOfCalls(t *testing.T) {
	calls, e := start.Calls(3, 60000, 10000, 65000)
	want(t, "Calls", calls, [][2]int{{0, 60000}, {5000, 70000}, {15000, 80000}})
	want(t, "its error", e, api.OK)
	inside, e := start.Isolated(3, 60000, 10000, 50000, 70000)
	want(t, "Isolated", inside, []int{2})
	want(t, "its error", e, api.OK)
}

// P6.3: nobody is called before 0, and each one starts later by the same time.
func TestCalls(t *testing.T) {
	for _, row := range []struct {
		n, first, each, warm int
		calls                [][2]int
	}{
		{0, 0, 0, 0, nil},
		{0, api.MaxTime, api.MaxTime, api.MaxTime, nil},
		{1, 0, api.MaxTime, 5, [][2]int{{0, 0}}},
		{1, api.MaxTime, api.MaxTime, 0, [][2]int{{api.MaxTime, api.MaxTime}}},
		{2, 0, api.MaxTime, api.MaxTime, [][2]int{{0, 0}, {0, api.MaxTime}}},
		{2, 0, api.MaxTime, api.MaxTime - 1, [][2]int{{0, 0}, {1, api.MaxTime}}},
		{3, 7, 0, 7, [][2]int{{0, 7}, {0, 7}, {0, 7}}},
		{3, 7, 1, 8, [][2]int{{0, 7}, {0, 8}, {1, 9}}},
		{3, 86399997, 1, 0, [][2]int{{86399997, 86399997}, {86399998, 86399998}, {86399999, 86399999}}},
	} {
		calls, e := start.Calls(row.n, row.first, row.each, row.warm)
		want(t, "Calls", calls, row.calls)
		want(t, "its error", e, api.OK)
	}
	calls, e := start.Calls(160, 99, 543395, 100)
	want(t, "the error of Calls of the most", e, api.OK)
	want(t, "how many calls", len(calls), 160)
	want(t, "the first call", calls[0], [2]int{0, 99})
	want(t, "the last call", calls[159], [2]int{86399804, 86399904})
}

// P6.3: in isolation are those who start later than the time, if this is not before it closes.
func TestIsolated(t *testing.T) {
	for _, row := range []struct {
		what                         string
		n, first, each, closes, time int
		inside                       []int
	}{
		{"nobody", 0, 5, 5, 0, 0, nil},
		{"one before the start", 1, 5, 5, 4, 4, []int{0}},
		{"one at the start", 1, 5, 5, 4, 5, nil},
		{"one before it closes", 1, 5, 5, 4, 3, nil},
		{"all when it closes", 3, 5, 5, 4, 4, []int{0, 1, 2}},
		{"all before it closes", 3, 5, 5, 4, 3, nil},
		{"those who are left", 3, 5, 5, 4, 9, []int{1, 2}},
		{"those who are left at a start", 3, 5, 5, 4, 10, []int{2}},
		{"the last one just before the start", 3, 5, 5, 4, 14, []int{2}},
		{"nobody at the last start", 3, 5, 5, 4, 15, nil},
		{"nobody behind the last start", 3, 5, 5, 4, api.MaxTime, nil},
		{"those who are left when it closes between starts", 3, 5, 5, 11, 11, []int{2}},
		{"nobody before it closes between starts", 3, 5, 5, 11, 10, nil},
		{"at the same start", 3, 5, 0, 0, 4, []int{0, 1, 2}},
		{"behind the same start", 3, 5, 0, 0, 5, nil},
		{"at the time 0", 3, 0, 1, 0, 0, []int{1, 2}},
		{"the last time", 2, api.MaxTime, 0, api.MaxTime, api.MaxTime - 1, nil},
	} {
		inside, e := start.Isolated(row.n, row.first, row.each, row.closes, row.time)
		want(t, row.what, inside, row.inside)
		want(t, row.what+": the error", e, api.OK)
	}
}

// P6.3: the errors of calls, and of isolation likewise; a start after the end of the day comes last.
func TestErrorsOfCalls(t *testing.T) {
	const end = api.MaxTime
	for _, row := range []struct {
		what                 string
		n, first, each, warm int
		e                    api.Errno
	}{
		{"the least ones", 0, 0, 0, 0, api.OK},
		{"the greatest ones", 160, end, 0, end, api.OK},
		{"a number below 0", -1, 0, 0, 0, api.ErrRange},
		{"the least number", math.MinInt, 0, 0, 0, api.ErrRange},
		{"too many", 161, 0, 0, 0, api.ErrRange},
		{"the greatest number", math.MaxInt, end, end, end, api.ErrRange},
		{"a first start below 0", 1, -1, 0, 0, api.ErrRange},
		{"a first start that is too late", 1, end + 1, 0, 0, api.ErrRange},
		{"an interval below 0", 1, 0, -1, 0, api.ErrRange},
		{"an interval that is too long", 1, 0, end + 1, 0, api.ErrRange},
		{"a last time below 0", 1, 0, 0, -1, api.ErrRange},
		{"a last time that is too late", 1, 0, 0, end + 1, api.ErrRange},
		{"a last time that is too late behind a late start", 2, end, end, end + 1, api.ErrRange},
		{"a wrong first start for nobody", 0, -1, 0, 0, api.ErrRange},
		{"the last start at the end", 160, 86399999 - 159*543395, 543395, 0, api.OK},
		{"the last start behind the end", 160, 86399999 - 159*543395 + 1, 543395, 0, api.ErrLarge},
		{"two starts", 2, end, 1, 0, api.ErrLarge},
		{"the greatest starts", 160, end, end, end, api.ErrLarge},
		{"no second start", 1, end, end, end, api.OK},
	} {
		calls, e := start.Calls(row.n, row.first, row.each, row.warm)
		want(t, row.what+": Calls", e, row.e)
		want(t, row.what+": calls beside an error", e == api.OK || calls == nil, true)
		for _, other := range []int{0, end} {
			inside, e := start.Isolated(row.n, row.first, row.each, other, row.warm)
			want(t, row.what+": Isolated at a time", e, row.e)
			want(t, row.what+": who is beside an error", e == api.OK || inside == nil, true)
			_, e = start.Isolated(row.n, row.first, row.each, row.warm, other)
			want(t, row.what+": Isolated that closes", e, row.e)
		}
	}
}
