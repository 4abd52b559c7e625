package start_test

import (
	"math"
	"slices"
	"testing"

	"crux/api"
	"crux/start"
)

// P6.4: the chapter's examples 4 and 5.
func TestExampleOfBrackets(t *testing.T) {
	slots, e := start.Bracket(5)
	want(t, "Bracket", slots, []int{1, 0, 4, 5, 2, 0, 3, 0})
	want(t, "its error", e, api.OK)
	round, e := start.Meet(5, 1, 4)
	want(t, "Meet", round, 2)
	want(t, "its error", e, api.OK)
	first, e := start.Races([]string{"a", "b", "c", "d", "e"})
	want(t, "Races", first, []start.Race{race("a", "", 1), race("d", "e", 0), race("b", "", 1), race("c", "", 1)})
	want(t, "its error", e, api.OK)
	second, e := start.Next(decided(first, 2))
	want(t, "Next", second, []start.Race{race("a", "e", 0), race("b", "c", 0)})
	want(t, "its error", e, api.OK)
	second = decided(second, 1, 2)
	final, e := start.Next(second)
	want(t, "the final", final, []start.Race{race("a", "c", 0)})
	want(t, "its error", e, api.OK)
	small, e := start.Small(second)
	want(t, "Small", small, race("e", "b", 0))
	want(t, "its error", e, api.OK)
	places, e := start.Places([][]start.Race{decided(first, 2), second, decided(final, 2)})
	want(t, "Places", places, []start.Place{{Name: "c", Place: 1}, {Name: "a", Place: 2}, {Name: "e", Place: 3}, {Name: "b", Place: 3}, {Name: "d", Place: 5}})
	want(t, "its error", e, api.OK)
}

// P6.4: the seeds of the slots.
func TestBracket(t *testing.T) {
	for _, row := range []struct {
		n     int
		slots []int
	}{
		{1, []int{1}},
		{2, []int{1, 2}},
		{3, []int{1, 0, 2, 3}},
		{4, []int{1, 4, 2, 3}},
		{6, []int{1, 0, 4, 5, 2, 0, 3, 6}},
		{8, []int{1, 8, 4, 5, 2, 7, 3, 6}},
		{9, []int{1, 0, 8, 9, 4, 0, 5, 0, 2, 0, 7, 0, 3, 0, 6, 0}},
		{16, []int{1, 16, 8, 9, 4, 13, 5, 12, 2, 15, 7, 10, 3, 14, 6, 11}},
	} {
		slots, e := start.Bracket(row.n)
		want(t, "Bracket", slots, row.slots)
		want(t, "its error", e, api.OK)
	}
	for n := 1; n <= 64; n++ {
		slots, e := start.Bracket(n)
		want(t, "Bracket", slots, modelBracket(n))
		want(t, "its error", e, api.OK)
	}
	for _, n := range []int{0, 65, -1, math.MinInt, math.MaxInt} {
		slots, e := start.Bracket(n)
		want(t, "the error of Bracket", e, api.ErrRange)
		want(t, "the slots beside it", slots, []int(nil))
	}
}

// P6.4: where two seeds meet, whichever is named first.
func TestMeet(t *testing.T) {
	for _, row := range []struct{ n, a, b, round int }{
		{2, 1, 2, 1},
		{3, 2, 3, 1},
		{3, 1, 2, 2},
		{3, 1, 3, 2},
		{8, 1, 8, 1},
		{8, 1, 4, 2},
		{8, 1, 2, 3},
		{8, 3, 6, 1},
		{8, 3, 7, 2},
		{64, 1, 2, 6},
		{64, 1, 64, 1},
		{33, 32, 33, 1},
		{33, 31, 32, 6},
	} {
		round, e := start.Meet(row.n, row.a, row.b)
		want(t, "Meet", round, row.round)
		want(t, "its error", e, api.OK)
	}
	for n := 1; n <= 64; n++ {
		for a := 1; a <= n; a++ {
			for b := 1; b < a; b++ {
				one, e := start.Meet(n, a, b)
				two, other := start.Meet(n, b, a)
				want(t, "Meet", []int{one, two}, []int{modelMeet(n, a, b), one})
				want(t, "its errors", []api.Errno{e, other}, []api.Errno{api.OK, api.OK})
			}
		}
	}
}

// P6.4: the errors of Meet, in their order.
func TestErrorsOfMeet(t *testing.T) {
	for _, row := range []struct {
		n, a, b int
		e       api.Errno
	}{
		{0, 0, 0, api.ErrRange},
		{65, 1, 1, api.ErrRange},
		{math.MinInt, 1, 2, api.ErrRange},
		{5, 0, 1, api.ErrUnknown},
		{5, 1, 0, api.ErrUnknown},
		{5, 6, 1, api.ErrUnknown},
		{5, 1, 6, api.ErrUnknown},
		{5, 0, 0, api.ErrUnknown},
		{5, 6, 6, api.ErrUnknown},
		{5, -1, 1, api.ErrUnknown},
		{5, 1, math.MaxInt, api.ErrUnknown},
		{5, 5, 5, api.ErrTwice},
		{1, 1, 1, api.ErrTwice},
		{1, 1, 2, api.ErrUnknown},
	} {
		round, e := start.Meet(row.n, row.a, row.b)
		want(t, "the error of Meet", e, row.e)
		want(t, "the round beside it", round, 0)
	}
}

// P6.4: the races of the first round, with a race of one name against nobody.
func TestRaces(t *testing.T) {
	for _, row := range []struct {
		names []string
		races []start.Race
	}{
		{[]string{"a"}, []start.Race{race("a", "", 1)}},
		{[]string{"a", "b"}, []start.Race{race("a", "b", 0)}},
		{[]string{"z", "b", "a"}, []start.Race{race("z", "", 1), race("b", "a", 0)}},
		{[]string{"a", "b", "c", "d"}, []start.Race{race("a", "d", 0), race("b", "c", 0)}},
	} {
		races, e := start.Races(row.names)
		want(t, "Races", races, row.races)
		want(t, "its error", e, api.OK)
	}
	for n := 1; n <= 64; n++ {
		races, e := start.Races(names(n))
		want(t, "Races", races, modelRaces(names(n)))
		want(t, "its error", e, api.OK)
		want(t, "CheckRaces", start.CheckRaces(races), api.OK)
	}
}

// P6.4: the errors of names.
func TestErrorsOfRaces(t *testing.T) {
	for _, row := range []struct {
		what  string
		names []string
		e     api.Errno
	}{
		{"no names", nil, api.ErrEmpty},
		{"an empty list", []string{}, api.ErrEmpty},
		{"too many names", names(65), api.ErrMany},
		{"too many that are none", make([]string, 65), api.ErrMany},
		{"the longest name", []string{longName}, api.OK},
		{"a name that is too long", []string{tooLong}, api.ErrName},
		{"an empty name", []string{"a", "", "a"}, api.ErrName},
		{"a name that is none", []string{"a", "b c"}, api.ErrName},
		{"a name twice", []string{"a", "b", "a", ""}, api.ErrTwice},
		{"a name twice at the end", slices.Concat(names(63), []string{"c1"}), api.ErrTwice},
	} {
		races, e := start.Races(row.names)
		want(t, row.what, e, row.e)
		want(t, row.what+": races beside an error", e == api.OK || races == nil, true)
	}
}
