package member_test

import (
	"math"
	"slices"
	"testing"

	"crux/api"
	"crux/member"
	"crux/number"
)

// P9.3: example 3.
func TestExampleOfPools(t *testing.T) {
	for _, row := range []struct {
		p    member.Pick
		day  int
		pool []string
	}{
		{pick(2, 2, 1), 10, []string{"cia", "ann"}},
		{pick(1, 2, 1), 10, []string{"cia"}},
		{pick(0, 2, 1), 10, nil},
		{pick(3, 2, 1), 10, []string{"cia", "ann"}},
		{pick(160, 0, 1), 10, []string{"cia", "ann", "bea"}},
		{pick(3, 1, 1), 10, []string{"cia", "ann"}},
		{pick(3, 0, 1), 9, []string{"cia", "ann"}},
		{pick(3, 4, 1), 10, []string{"cia", "ann"}},
		{pick(3, 5, 1), 10, []string{"cia"}},
		{pick(3, api.MaxDay, 1), 10, []string{"cia"}},
		// The test of bea is not known on the day 8: so she is as cia.
		{pick(3, 2, 1), 8, []string{"bea", "cia", "ann"}},
		{pick(3, 2, 1), 4, []string{"bea", "ann", "cia"}},
		{pick(3, api.MaxDay, 1), 0, []string{"bea", "ann", "cia"}},
	} {
		pool, e := member.Pool(three(), tests(), row.p, row.day)
		want(t, "the pool", pool, row.pool)
		want(t, "the error of the pool", e, api.OK)
	}
	for _, row := range []struct {
		days, day int
		late      []string
	}{
		{4, 10, []string{"ann", "cia"}},
		{5, 10, []string{"cia"}},
		{1, 10, []string{"ann", "cia"}},
		{0, 10, three()},
		{0, 9, []string{"ann", "cia"}},
		{4, 8, []string{"bea", "cia"}},
		{api.MaxDay, 10, []string{"cia"}},
		{api.MaxDay, 4, three()},
		{api.MaxDay, 0, three()},
	} {
		late, e := member.Late(three(), tests(), row.days, row.day)
		want(t, "who is late", late, row.late)
		want(t, "the error of who is late", e, api.OK)
	}
}

// P9.3: a test on the day 0 is one.
func TestFirstDay(t *testing.T) {
	l := []member.Test{test("ann", 0)}
	pool, _ := member.Pool(three(), l, pick(3, 4, 1), 5)
	want(t, "the pool", pool, []string{"bea", "cia", "ann"})
	pool, _ = member.Pool(three(), l, pick(3, 5, 1), 5)
	want(t, "the pool without ann", pool, []string{"bea", "cia"})
	late, _ := member.Late(three(), l, 4, 5)
	want(t, "who is late", late, three())
	late, _ = member.Late(three(), l, 5, 5)
	want(t, "who is late without ann", late, []string{"bea", "cia"})
}

// P9.3: without tests a pool is a drawn order; tests of others do not matter.
func TestDrawnPools(t *testing.T) {
	for _, n := range []int{0, 1, 2, 9, 160} {
		for _, key := range []int{1, 2, 77, 2147483646} {
			order, _ := number.Draw(key, n)
			var wanted []string
			for _, i := range order {
				wanted = append(wanted, names(n)[i])
			}
			pool, e := member.Pool(names(n), []member.Test{test("other", 3), test("zoe", 5)}, pick(160, 9, key), 5)
			want(t, "the pool", pool, wanted)
			want(t, "the error", e, api.OK)
		}
	}
}

// P9.3: only the last test up to the day counts, wherever it stands in the list.
func TestLastTests(t *testing.T) {
	l := []member.Test{test("ann", 30), test("bea", 12), test("ann", 11), test("ann", 2), test("cia", 13), test("bea", 12)}
	for _, row := range []struct {
		day        int
		pool, late []string
	}{
		{14, []string{"ann", "bea", "cia"}, nil},
		{29, []string{"ann", "bea", "cia"}, three()},
		{31, []string{"bea", "cia", "ann"}, []string{"bea", "cia"}},
		{12, []string{"cia", "ann"}, []string{"cia"}},
	} {
		pool, _ := member.Pool(three(), l, pick(9, 0, 1), row.day)
		want(t, "the pool", pool, row.pool)
		late, _ := member.Late(three(), l, 3, row.day)
		want(t, "who is late", late, row.late)
	}
}

// poolErrors returns the errors of both functions of pools.
func poolErrors(c []string, l []member.Test, p member.Pick, days, day int) (api.Errno, api.Errno) {
	_, pool := member.Pool(c, l, p, day)
	_, late := member.Late(c, l, days, day)
	return pool, late
}

// P9.3: the errors of lists of climbers in their order, before those of tests.
func TestErrorsOfNames(t *testing.T) {
	for _, row := range []struct {
		what string
		c    []string
		e    api.Errno
	}{
		{"example 3", three(), api.OK},
		{"nobody", nil, api.OK},
		{"the most climbers", names(160), api.OK},
		{"one more", names(161), api.ErrMany},
		{"too many before a wrong one", make([]string, 161), api.ErrMany},
		{"no name", []string{"ann", ""}, api.ErrName},
		{"the longest name", []string{longName}, api.OK},
		{"a name that is too long", []string{tooLong}, api.ErrName},
		{"a name twice", []string{"ann", "bea", "ann"}, api.ErrTwice},
		{"no name twice", []string{"", ""}, api.ErrName},
		{"the first one with an error", []string{"ann", "ann", ""}, api.ErrTwice},
	} {
		pool, late := poolErrors(row.c, []member.Test{test("", 1)}, pick(-1, 0, 1), -1, -1)
		want(t, "Pool: "+row.what, pool, first(row.e, api.ErrName))
		want(t, "Late: "+row.what, late, first(row.e, api.ErrName))
		pool, late = poolErrors(row.c, tests(), pick(1, 1, 1), 1, 1)
		want(t, "Pool: "+row.what, pool, row.e)
		want(t, "Late: "+row.what, late, row.e)
	}
}

// P9.3: the errors of tests in their order, before those of a pick and of days.
func TestErrorsOfTests(t *testing.T) {
	for _, row := range []struct {
		what string
		l    []member.Test
		e    api.Errno
	}{
		{"example 3", tests(), api.OK},
		{"none", nil, api.OK},
		{"the most tests", slices.Repeat([]member.Test{test("ann", 1)}, 256), api.OK},
		{"one more", slices.Repeat([]member.Test{test("ann", 1)}, 257), api.ErrMany},
		{"too many before a wrong one", make([]member.Test, 257), api.ErrMany},
		{"no name", []member.Test{test("", 1)}, api.ErrName},
		{"the longest name", []member.Test{test(longName, 1)}, api.OK},
		{"a name that is too long", []member.Test{test(tooLong, 1)}, api.ErrName},
		{"the name before the day", []member.Test{test("", -1)}, api.ErrName},
		{"a day before", []member.Test{test("ann", -1)}, api.ErrRange},
		{"the first day", []member.Test{test("ann", 0)}, api.OK},
		{"the last day", []member.Test{test("ann", api.MaxDay)}, api.OK},
		{"a day behind", []member.Test{test("ann", api.MaxDay+1)}, api.ErrRange},
		{"the greatest integer", []member.Test{test("ann", math.MaxInt)}, api.ErrRange},
		{"the least integer", []member.Test{test("ann", math.MinInt)}, api.ErrRange},
		{"the same twice", []member.Test{test("ann", 1), test("ann", 1)}, api.OK},
		{"the first one with an error", []member.Test{test("ann", -1), test("", 1)}, api.ErrRange},
		{"one of nobody in the list", []member.Test{test("zoe", -1)}, api.ErrRange},
	} {
		want(t, "CheckTests: "+row.what, member.CheckTests(row.l), row.e)
		want(t, "the model: "+row.what, modelTests(row.l), row.e)
		pool, late := poolErrors(three(), row.l, pick(-1, 0, 1), -1, -1)
		want(t, "Pool: "+row.what, pool, first(row.e, api.ErrRange))
		want(t, "Late: "+row.what, late, first(row.e, api.ErrRange))
	}
}

// P9.3: the errors of a pick, and of days.
func TestErrorsOfPicks(t *testing.T) {
	for _, row := range []struct {
		what string
		p    member.Pick
		e    api.Errno
	}{
		{"the least pick", pick(0, 0, 1), api.OK},
		{"the greatest pick", pick(160, api.MaxDay, 2147483646), api.OK},
		{"Count below", pick(-1, 0, 1), api.ErrRange},
		{"Count above", pick(161, 0, 1), api.ErrRange},
		{"Spare below", pick(0, -1, 1), api.ErrRange},
		{"Spare above", pick(0, api.MaxDay+1, 1), api.ErrRange},
		{"the key below", pick(0, 0, 0), api.ErrRange},
		{"the key above", pick(0, 0, 2147483647), api.ErrRange},
		{"a negative key", pick(0, 0, -1), api.ErrRange},
		{"the greatest integers", pick(math.MaxInt, math.MaxInt, math.MaxInt), api.ErrRange},
		{"the greatest integer for Spare", pick(1, math.MaxInt, 1), api.ErrRange},
		{"the least integer for Spare", pick(1, math.MinInt, 1), api.ErrRange},
	} {
		for _, c := range [][]string{nil, three(), names(160)} {
			pool, _ := poolErrors(c, nil, row.p, 0, 0)
			want(t, "Pool: "+row.what, pool, row.e)
		}
	}
	for _, row := range []struct {
		days, day  int
		pool, late api.Errno
	}{
		{0, 0, api.OK, api.OK},
		{api.MaxDay, api.MaxDay, api.OK, api.OK},
		{-1, 0, api.OK, api.ErrRange},
		{api.MaxDay + 1, 0, api.OK, api.ErrRange},
		{math.MaxInt, 0, api.OK, api.ErrRange},
		{math.MinInt, 0, api.OK, api.ErrRange},
		{0, -1, api.ErrRange, api.ErrRange},
		{0, api.MaxDay + 1, api.ErrRange, api.ErrRange},
		{0, math.MaxInt, api.ErrRange, api.ErrRange},
		{0, math.MinInt, api.ErrRange, api.ErrRange},
	} {
		pool, late := poolErrors(three(), tests(), pick(1, 1, 1), row.days, row.day)
		want(t, "the error of Pool", pool, row.pool)
		want(t, "the error of Late", late, row.late)
	}
}

// P9.3: as in the model.
func TestPoolsLikeModel(t *testing.T) {
	d := draw(3)
	for range 10000 {
		c, l, p, day := d.some(names(7)), d.tests(12), d.pick(), d.Intn(14)
		pool, e := member.Pool(c, l, p, day)
		wanted, wantedError := modelPool(c, l, p, day)
		want(t, "the pool", pool, wanted)
		want(t, "the error of the pool", e, wantedError)
		late, e := member.Late(c, l, p.Spare, day)
		model, modelError := modelLate(c, l, p.Spare, day)
		want(t, "who is late", late, model)
		want(t, "the error of who is late", e, modelError)
	}
}

// P9.3: many climbers whose last tests are equal stay as they are drawn.
func TestGreatPools(t *testing.T) {
	d := draw(14)
	for range 50 {
		var l []member.Test
		for range 80 {
			l = append(l, test(d.oneOf(names(60)), d.Intn(5)))
		}
		p := pick(160, d.Intn(3), 1+d.Intn(2147483646))
		pool, e := member.Pool(names(60), l, p, 5)
		wanted, wantedError := modelPool(names(60), l, p, 5)
		want(t, "the pool", pool, wanted)
		want(t, "the error", e, wantedError)
	}
}
