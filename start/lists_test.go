package start_test

import (
	"math"
	"slices"
	"testing"

	"crux/api"
	"crux/start"
)

// P6.1: the constants of the chapter.
func TestConstants(t *testing.T) {
	want(t, "constants", []int{start.Limit, start.MaxGroups, start.MaxSlots}, []int{100, 16, 64})
}

// P6.1: the errors of starters, in their order.
func TestCheckStarters(t *testing.T) {
	ann := starter("ann", "north", 1)
	for _, row := range []struct {
		what string
		l    []start.Starter
		e    api.Errno
	}{
		{"nobody", nil, api.OK},
		{"the four of the chapter", four(), api.OK},
		{"the most", starters(160), api.OK},
		{"too many", starters(161), api.ErrMany},
		{"too many without names", make([]start.Starter, 161), api.ErrMany},
		{"the least and the greatest seed", []start.Starter{starter("a", "n", 0), starter("b", "n", api.MaxNumber)}, api.OK},
		{"the same seed", []start.Starter{ann, starter("ben", "south", 1)}, api.OK},
		{"a nation with the name of a climber", []start.Starter{ann, starter("north", "ann", 1)}, api.OK},
		{"long names", []start.Starter{starter(longName, longName, 0)}, api.OK},
		{"the zero value", make([]start.Starter, 1), api.ErrName},
		{"no name", []start.Starter{ann, starter("", "north", 1)}, api.ErrName},
		{"a name that is none", []start.Starter{starter("1", "", -1), ann, ann}, api.ErrName},
		{"a name that is too long", []start.Starter{starter(tooLong, "north", 1)}, api.ErrName},
		{"a name twice", []start.Starter{ann, starter("ben", "north", 2), starter("ann", "", -1)}, api.ErrTwice},
		{"a name twice behind no nation", []start.Starter{ann, starter("ben", "", 2), ann}, api.ErrName},
		{"no nation", []start.Starter{starter("ann", "", -1)}, api.ErrName},
		{"a nation that is none", []start.Starter{ann, starter("ben", "a b", 1)}, api.ErrName},
		{"a nation that is too long", []start.Starter{starter("ann", tooLong, 1)}, api.ErrName},
		{"a seed below 0", []start.Starter{starter("ann", "north", -1), starter("", "", 0)}, api.ErrRange},
		{"a seed that is too large", []start.Starter{ann, starter("ben", "north", api.MaxNumber+1)}, api.ErrRange},
		{"the least number as a seed", []start.Starter{starter("ann", "north", math.MinInt)}, api.ErrRange},
	} {
		want(t, row.what, start.CheckStarters(row.l), row.e)
		want(t, row.what+" by the model", modelStarters(row.l), row.e)
	}
}

// P6.1: the chapter's example 1; its key is free, as no seeds are equal.
func TestExampleOfLists(t *testing.T) {
	for _, key := range []int{1, 2, 2147483646} {
		order, e := start.Seeded(four(), key)
		want(t, "the seeded order", order, []int{2, 0, 3, 1})
		want(t, "its error", e, api.OK)
		groups, e := start.Groups(four(), 2, key)
		want(t, "two groups", groups, [][]int{{2, 1}, {0, 3}})
		want(t, "their error", e, api.OK)
	}
	one, two, e := start.Routes([]int{2, 0, 3, 1})
	want(t, "the first route", one, []int{2, 0, 3, 1})
	want(t, "the second route", two, []int{3, 1, 2, 0})
	want(t, "their error", e, api.OK)
}

// P6.1: of equal seeds the one that is drawn first comes first; those without a seed come last, in the drawn order.
func TestSeeded(t *testing.T) {
	seeds := func(l ...int) []start.Starter {
		all := starters(len(l))
		for i, seed := range l {
			all[i].Seed = seed
		}
		return all
	}
	// The drawn order of 3 elements by the key 1 is 1, 0, 2.
	for _, row := range []struct {
		what  string
		l     []start.Starter
		order []int
	}{
		{"nobody", nil, nil},
		{"one", seeds(7), []int{0}},
		{"no seeds", seeds(0, 0, 0), []int{1, 0, 2}},
		{"equal seeds", seeds(5, 5, 5), []int{1, 0, 2}},
		{"two equal seeds", seeds(9, 9, 3), []int{2, 1, 0}},
		{"no seed at first", seeds(0, 1, 2), []int{1, 2, 0}},
		{"two without a seed", seeds(0, 0, api.MaxNumber), []int{2, 1, 0}},
		{"one without a seed behind the greatest one", seeds(api.MaxNumber, 0, 1), []int{2, 0, 1}},
		{"descending seeds", seeds(3, 2, 1), []int{2, 1, 0}},
	} {
		order, e := start.Seeded(row.l, 1)
		want(t, row.what, order, row.order)
		want(t, row.what+": the error", e, api.OK)
	}
}

// P6.1: the errors of the seeded order and of groups: of the starters, of the number of groups, of the key.
func TestErrorsOfSeeds(t *testing.T) {
	wrong := []start.Starter{starter("", "", 0)}
	for _, row := range []struct {
		what        string
		l           []start.Starter
		groups, key int
		seeded      api.Errno
		inGroups    api.Errno
	}{
		{"the least ones", nil, 1, 1, api.OK, api.OK},
		{"the greatest ones", starters(160), 16, 2147483646, api.OK, api.OK},
		{"starters with an error", wrong, 0, 0, api.ErrName, api.ErrName},
		{"too many starters", starters(161), 0, 0, api.ErrMany, api.ErrMany},
		{"too many starters for a draw", starters(257), 1, 1, api.ErrMany, api.ErrMany},
		{"no groups", four(), 0, 1, api.OK, api.ErrRange},
		{"too many groups", four(), 17, 1, api.OK, api.ErrRange},
		{"groups below 0", four(), -1, 1, api.OK, api.ErrRange},
		{"the least number of groups", four(), math.MinInt, 1, api.OK, api.ErrRange},
		{"the key 0", four(), 2, 0, api.ErrRange, api.ErrRange},
		{"a key below 0", four(), 2, -1, api.ErrRange, api.ErrRange},
		{"a large key", four(), 2, 2147483647, api.ErrRange, api.ErrRange},
		{"the greatest key", four(), 2, math.MaxInt, api.ErrRange, api.ErrRange},
		{"a wrong key for nobody", nil, 1, 0, api.ErrRange, api.ErrRange},
	} {
		order, e := start.Seeded(row.l, row.key)
		want(t, row.what+": Seeded", e, row.seeded)
		want(t, row.what+": an order beside an error", e == api.OK || order == nil, true)
		groups, e := start.Groups(row.l, row.groups, row.key)
		want(t, row.what+": Groups", e, row.inGroups)
		want(t, row.what+": groups beside an error", e == api.OK || groups == nil, true)
	}
}

// P6.1: groups are dealt to and fro, and there are as many as are asked for, also empty ones.
func TestGroups(t *testing.T) {
	l := starters(7)
	for i := range l {
		l[i].Seed = i + 1
	}
	for _, row := range []struct {
		n, groups int
		lists     [][]int
	}{
		{0, 1, [][]int{{}}},
		{0, 3, [][]int{{}, {}, {}}},
		{2, 3, [][]int{{0}, {1}, {}}},
		{7, 1, [][]int{{0, 1, 2, 3, 4, 5, 6}}},
		{7, 2, [][]int{{0, 3, 4}, {1, 2, 5, 6}}},
		{7, 3, [][]int{{0, 5, 6}, {1, 4}, {2, 3}}},
		{7, 7, [][]int{{0}, {1}, {2}, {3}, {4}, {5}, {6}}},
		{7, 16, [][]int{{0}, {1}, {2}, {3}, {4}, {5}, {6}, {}, {}, {}, {}, {}, {}, {}, {}, {}}},
	} {
		lists, e := start.Groups(l[:row.n], row.groups, 1)
		want(t, "Groups", lists, row.lists)
		want(t, "its error", e, api.OK)
	}
}

// P6.1: seeded orders and groups are those of a second implementation.
func TestListsByTheModel(t *testing.T) {
	d := draw(1)
	for range 2000 {
		l := d.starters(40)
		key, groups := 1+d.Intn(2147483646), 1+d.Intn(16)
		order, e := start.Seeded(l, key)
		want(t, "Seeded", order, modelSeeded(l, key))
		want(t, "its error", e, api.OK)
		lists, e := start.Groups(l, groups, key)
		want(t, "Groups", lists, modelGroups(order, groups))
		want(t, "its error", e, api.OK)
	}
}

// P6.1: the second route begins behind the first half, which is the greater one of an odd number.
func TestRoutes(t *testing.T) {
	long := make([]int, 160)
	for i := range long {
		long[i] = 159 - i
	}
	for _, row := range []struct {
		what       string
		order, two []int
		e          api.Errno
	}{
		{"nobody", nil, nil, api.OK},
		{"one", []int{4}, []int{4}, api.OK},
		{"two", []int{4, 2}, []int{2, 4}, api.OK},
		{"three", []int{4, 2, 9}, []int{9, 4, 2}, api.OK},
		{"five", []int{5, 4, 3, 2, 1}, []int{2, 1, 5, 4, 3}, api.OK},
		{"any numbers", []int{api.MaxNumber, 0, 7, 1000}, []int{7, 1000, api.MaxNumber, 0}, api.OK},
		{"the most", long, slices.Concat(long[80:], long[:80]), api.OK},
		{"too many", make([]int, 161), nil, api.ErrMany},
		{"a number below 0", []int{0, -1, 0}, nil, api.ErrRange},
		{"a number that is too large", []int{api.MaxNumber + 1}, nil, api.ErrRange},
		{"the least number twice", []int{math.MinInt, math.MinInt}, nil, api.ErrRange},
		{"a number twice", []int{3, 1, 3, -1}, nil, api.ErrTwice},
		{"the number 0 twice", []int{0, 0}, nil, api.ErrTwice},
	} {
		one, two, e := start.Routes(row.order)
		want(t, row.what+": the error", e, row.e)
		want(t, row.what+": the error of the model", modelNumbers(row.order), row.e)
		want(t, row.what+": the second route", two, row.two)
		if row.e == api.OK {
			want(t, row.what+": the first route", one, row.order)
		} else {
			want(t, row.what+": the first route beside an error", one, []int(nil))
		}
	}
}
