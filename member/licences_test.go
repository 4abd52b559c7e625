package member_test

import (
	"math"
	"slices"
	"testing"

	"crux/api"
	"crux/member"
)

// P9.2: example 2.
func TestExampleOfLicences(t *testing.T) {
	for _, row := range []struct {
		from, to int
		licensed bool
	}{
		{15, 25, true},
		{15, 31, false},
		{10, 30, true},
		{9, 30, false},
		{9, 9, false},
		{10, 10, true},
		{20, 21, true},
		{30, 30, true},
		{31, 31, false},
		{0, api.MaxDay, false},
	} {
		got, e := member.Licensed(licences(), "ann", row.from, row.to)
		want(t, "whether there is a licence", got, row.licensed)
		want(t, "the error", e, api.OK)
	}
	for day, lapse := range map[int]int{15: 31, 0: 0, 9: 9, 10: 31, 20: 31, 21: 31, 30: 31, 31: 31, 32: 32, api.MaxDay: api.MaxDay} {
		got, e := member.Lapse(licences(), "ann", day)
		want(t, "the first day without a licence", got, lapse)
		want(t, "the error of this day", e, api.OK)
	}
	got, e := member.Licensed(licences(), "bea", 15, 15)
	want(t, "whether there is a licence of bea", got, false)
	want(t, "the error of bea", e, api.OK)
}

// P9.2: licences that overlap, stand in any order, are those of others, or have a day between them.
func TestLapse(t *testing.T) {
	for _, row := range []struct {
		what string
		l    []member.Licence
		day  int
		want int
	}{
		{"no licences", nil, 7, 7},
		{"of one day", []member.Licence{licence("ann", 7, 7)}, 7, 8},
		{"backwards", []member.Licence{licence("ann", 21, 30), licence("ann", 10, 20)}, 10, 31},
		{"one in another", []member.Licence{licence("ann", 10, 40), licence("ann", 15, 20)}, 17, 41},
		{"a day between", []member.Licence{licence("ann", 10, 20), licence("ann", 22, 30)}, 10, 21},
		{"on the day between", []member.Licence{licence("ann", 10, 20), licence("ann", 22, 30)}, 21, 21},
		{"that of another one fills no day", []member.Licence{licence("ann", 10, 20), licence("bea", 21, 21), licence("ann", 22, 30)}, 10, 21},
		{"three in a chain", []member.Licence{licence("ann", 5, 9), licence("ann", 2, 6), licence("ann", 8, 12)}, 3, 13},
		{"to the last day", []member.Licence{licence("ann", 0, api.MaxDay)}, 0, api.MaxDay + 1},
		{"on the last day", []member.Licence{licence("ann", api.MaxDay, api.MaxDay)}, api.MaxDay, api.MaxDay + 1},
		{"not on the last day", []member.Licence{licence("ann", 0, api.MaxDay-1)}, api.MaxDay, api.MaxDay},
		{"twice the same", []member.Licence{licence("ann", 3, 4), licence("ann", 3, 4)}, 3, 5},
	} {
		got, e := member.Lapse(row.l, "ann", row.day)
		want(t, row.what, got, row.want)
		want(t, "the error: "+row.what, e, api.OK)
	}
	whole, e := member.Licensed([]member.Licence{licence("ann", 0, api.MaxDay)}, "ann", 0, api.MaxDay)
	want(t, "a licence for all days", whole, true)
	want(t, "its error", e, api.OK)
}

// P9.2: a licence on each day of a span by many short ones.
func TestChainOfLicences(t *testing.T) {
	var l []member.Licence
	for i := range api.MaxList {
		l = append(l, licence("ann", 390*i, 390*i+389))
	}
	slices.Reverse(l)
	lapse, e := member.Lapse(l, "ann", 0)
	want(t, "the first day without a licence", lapse, 390*api.MaxList)
	want(t, "the error", e, api.OK)
	l[100].To--
	end := l[100].To + 1
	for to, licensed := range map[int]bool{end - 1: true, end: false, end + 1: false, api.MaxDay: false} {
		got, e := member.Licensed(l, "ann", 0, to)
		want(t, "whether there is a licence", got, licensed)
		want(t, "the error", e, api.OK)
	}
}

// P9.2: the errors of licences in their order, before those of the other arguments.
func TestErrorsOfLicences(t *testing.T) {
	for _, row := range []struct {
		what string
		l    []member.Licence
		e    api.Errno
	}{
		{"example 2", licences(), api.OK},
		{"none", nil, api.OK},
		{"the most licences", slices.Repeat([]member.Licence{licence("ann", 1, 2)}, 256), api.OK},
		{"one more", slices.Repeat([]member.Licence{licence("ann", 1, 2)}, 257), api.ErrMany},
		{"too many before a wrong one", make([]member.Licence, 257), api.ErrMany},
		{"no name", []member.Licence{licence("", 1, 2)}, api.ErrName},
		{"the longest name", []member.Licence{licence(longName, 1, 2)}, api.OK},
		{"a name that is too long", []member.Licence{licence(tooLong, 1, 2)}, api.ErrName},
		{"the name before its days", []member.Licence{licence("", -1, 2)}, api.ErrName},
		{"From below", []member.Licence{licence("ann", -1, 2)}, api.ErrRange},
		{"From above", []member.Licence{licence("ann", api.MaxDay+1, api.MaxDay)}, api.ErrRange},
		{"To below", []member.Licence{licence("ann", 0, -1)}, api.ErrRange},
		{"To above", []member.Licence{licence("ann", 0, api.MaxDay+1)}, api.ErrRange},
		{"the greatest integer", []member.Licence{licence("ann", 0, math.MaxInt)}, api.ErrRange},
		{"the least integer", []member.Licence{licence("ann", math.MinInt, 0)}, api.ErrRange},
		{"the first and the last day", []member.Licence{licence("ann", 0, api.MaxDay), licence("ann", 0, 0), licence("ann", api.MaxDay, api.MaxDay)}, api.OK},
		{"From behind To", []member.Licence{licence("ann", 6, 5)}, api.ErrOrder},
		{"the same twice", []member.Licence{licence("ann", 5, 6), licence("ann", 5, 6)}, api.OK},
		{"the first one with an error", []member.Licence{licence("ann", 2, 1), licence("", 1, 2)}, api.ErrOrder},
		{"one of another climber with an error", []member.Licence{licence("ann", 1, 2), licence("bea", 1, -2)}, api.ErrRange},
	} {
		want(t, "CheckLicences: "+row.what, member.CheckLicences(row.l), row.e)
		want(t, "the model: "+row.what, modelLicences(row.l), row.e)
		_, e := member.Licensed(row.l, "", -1, -2)
		want(t, "Licensed: "+row.what, e, first(row.e, api.ErrName))
		_, e = member.Lapse(row.l, "", -1)
		want(t, "Lapse: "+row.what, e, first(row.e, api.ErrName))
	}
}

// P9.2: the errors of climbers and days.
func TestErrorsOfLicensed(t *testing.T) {
	for _, row := range []struct {
		climber  string
		from, to int
		e, lapse api.Errno
	}{
		{"ann", 1, 2, api.OK, api.OK},
		{longName, 2, 2, api.OK, api.OK},
		{tooLong, 2, 2, api.ErrName, api.ErrName},
		{"a b", -1, -2, api.ErrName, api.ErrName},
		{"ann", -1, 2, api.ErrRange, api.ErrRange},
		{"ann", api.MaxDay + 1, 2, api.ErrRange, api.ErrRange},
		{"ann", 1, -1, api.ErrRange, api.OK},
		{"ann", 1, api.MaxDay + 1, api.ErrRange, api.OK},
		{"ann", math.MinInt, math.MaxInt, api.ErrRange, api.ErrRange},
		{"ann", 0, math.MaxInt, api.ErrRange, api.OK},
		{"ann", 2, 1, api.ErrOrder, api.OK},
		{"ann", api.MaxDay, 0, api.ErrOrder, api.OK},
	} {
		_, e := member.Licensed(licences(), row.climber, row.from, row.to)
		want(t, "the error of Licensed", e, row.e)
		_, e = member.Lapse(licences(), row.climber, row.from)
		want(t, "the error of Lapse", e, row.lapse)
	}
}

// P9.2: as in the model.
func TestLicencesLikeModel(t *testing.T) {
	d := draw(2)
	for range 10000 {
		l, name, from := d.licences(12), d.oneOf(names(3)), d.Intn(25)
		to := from + d.Intn(8)
		got, e := member.Licensed(l, name, from, to)
		wanted, wantedError := modelLicensed(l, name, from, to)
		want(t, "whether there is a licence", got, wanted)
		want(t, "the error", e, wantedError)
		lapse, e := member.Lapse(l, name, from)
		model, modelError := modelLapse(l, name, from)
		want(t, "the first day without a licence", lapse, model)
		want(t, "the error of this day", e, modelError)
	}
}
