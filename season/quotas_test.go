package season_test

import (
	"math"
	"slices"
	"testing"

	"crux/api"
	"crux/season"
)

// place returns a place.
func place(climber string, rule int) season.Place {
	return season.Place{Climber: climber, Rule: rule}
}

// P8.4: example 5.
func TestExampleOfQuotas(t *testing.T) {
	for _, row := range []struct {
		withdrawn []string
		places    []season.Place
		open      []int
		next      []string
	}{
		{nil, []season.Place{place("ann", 0), place("cia", 0), place("eva", 1)}, []int{0, 1}, []string{"", ""}},
		{[]string{"ann"}, []season.Place{place("bea", 0), place("cia", 0), place("eva", 1)}, []int{0, 1}, []string{"", ""}},
		{[]string{"cia"}, []season.Place{place("ann", 0), place("dot", 0), place("eva", 1)}, []int{0, 1}, []string{"", ""}},
		{[]string{"bea", "ann"}, []season.Place{place("cia", 0), place("eva", 1)}, []int{1, 1}, []string{"", ""}},
	} {
		places, e := season.Places(quota(), row.withdrawn)
		want(t, "the places", places, row.places)
		want(t, "the error of the places", e, api.OK)
		open, e := season.Open(quota(), row.withdrawn)
		want(t, "what is open", open, row.open)
		want(t, "the error of what is open", e, api.OK)
		for rule, name := range row.next {
			next, e := season.Next(quota(), row.withdrawn, rule)
			want(t, "the next one", next, name)
			want(t, "the error of the next one", e, when(name == "", api.ErrNone))
		}
	}
	for _, row := range []struct {
		climber   string
		lose, get []string
		e         api.Errno
	}{
		{"ann", []string{"ann"}, []string{"bea"}, api.OK},
		{"cia", []string{"cia"}, []string{"dot"}, api.OK},
		{"eva", []string{"eva"}, nil, api.OK},
		{"bea", nil, nil, api.ErrNone},
		{"zoe", nil, nil, api.ErrNone},
		{"A", nil, nil, api.ErrNone},
		{"", nil, nil, api.ErrName},
	} {
		lose, get, e := season.Withdraw(quota(), nil, row.climber)
		want(t, "who loses a place with "+row.climber, lose, row.lose)
		want(t, "who gets a place with "+row.climber, get, row.get)
		want(t, "the error with "+row.climber, e, row.e)
	}
}

// quotaErrors returns the errors of all functions of quotas.
func quotaErrors(q season.Quota, withdrawn []string, rule int, climber string) map[string]api.Errno {
	_, places := season.Places(q, withdrawn)
	_, open := season.Open(q, withdrawn)
	_, next := season.Next(q, withdrawn, rule)
	_, _, withdraw := season.Withdraw(q, withdrawn, climber)
	return map[string]api.Errno{"Places": places, "Open": open, "Next": next, "Withdraw": withdraw}
}

// wantQuota reports an error of a quota that is not the wanted one, and comes before those of other arguments.
func wantQuota(t *testing.T, what string, q season.Quota, e api.Errno) {
	t.Helper()
	want(t, "CheckQuota: "+what, season.CheckQuota(q), e)
	want(t, "the model: "+what, modelQuota(q), e)
	for name, got := range quotaErrors(q, []string{"ann", "ann"}, -1, "") {
		want(t, name+": "+what, got, first(e, api.ErrTwice))
	}
}

// P8.4: the errors of a quota in their order.
func TestErrorsOfQuotas(t *testing.T) {
	of := func(l ...season.List) season.Quota { return season.Quota{Lists: l, Cap: 1} }
	with := func(l ...season.Entry) season.Quota { return of(list("world", 1, l...)) }
	limited := func(limit int) season.Quota { return season.Quota{Lists: lists(1), Cap: limit} }
	for _, row := range []struct {
		what string
		q    season.Quota
		e    api.Errno
	}{
		{"example 5", quota(), api.OK},
		{"no rules", of(), api.OK},
		{"the most rules", of(lists(16)...), api.OK},
		{"one more", of(lists(17)...), api.ErrMany},
		{"too many rules before a wrong one", of(make([]season.List, 17)...), api.ErrMany},
		{"no name", of(list("", 1)), api.ErrName},
		{"the longest name", of(list(longName, 1)), api.OK},
		{"a name that is too long", of(list(tooLong, 1)), api.ErrName},
		{"no name before the Count", of(list("", -1)), api.ErrName},
		{"a name twice", of(list("a", 1), list("b", 1), list("a", 1)), api.ErrTwice},
		{"a name twice before the Count", of(list("a", 1), list("a", -1)), api.ErrTwice},
		{"Count below", of(list("a", -1)), api.ErrRange},
		{"no places", of(list("a", 0)), api.OK},
		{"the most places", of(list("a", 160)), api.OK},
		{"Count above", of(list("a", 161)), api.ErrRange},
		{"the greatest integer as the Count", of(list("a", math.MaxInt)), api.ErrRange},
		{"Count before the entries", of(list("a", -1, entries(161)...)), api.ErrRange},
		{"the most entries", with(entries(160)...), api.OK},
		{"one entry more", with(entries(161)...), api.ErrMany},
		{"too many entries before a wrong one", with(make([]season.Entry, 161)...), api.ErrMany},
		{"a climber without a name", with(entry("", "A")), api.ErrName},
		{"a nation without a name", with(entry("ann", "")), api.ErrName},
		{"the longest names", with(entry(longName, longName)), api.OK},
		{"a climber whose name is too long", with(entry(tooLong, "A")), api.ErrName},
		{"a nation whose name is too long", with(entry("ann", tooLong)), api.ErrName},
		{"a climber twice", with(entry("ann", "A"), entry("bea", "A"), entry("ann", "B")), api.ErrTwice},
		{"the nation before a climber twice", with(entry("ann", "A"), entry("ann", "1")), api.ErrName},
		{"a climber in two rules", of(list("a", 1, entry("ann", "A")), list("b", 1, entry("ann", "B"))), api.OK},
		{"a nation as a climber", with(entry("A", "A"), entry("B", "A")), api.OK},
		{"the first entry with an error", with(entry("ann", "A"), entry("ann", "A"), entry("", "A")), api.ErrTwice},
		{"the first rule with an error", of(list("a", 1, entry("", "A")), list("a", 1)), api.ErrName},
		{"a name twice before the entries", of(list("a", 1), list("a", 1, entry("", "A"))), api.ErrTwice},
		{"no Cap", limited(0), api.ErrRange},
		{"the least Cap", limited(1), api.OK},
		{"the greatest Cap", limited(160), api.OK},
		{"Cap above", limited(161), api.ErrRange},
		{"the least integer as the Cap", limited(math.MinInt), api.ErrRange},
		{"the rules before the Cap", season.Quota{Lists: []season.List{list("a", 1, entry("", "A"))}}, api.ErrName},
		{"too many rules before the Cap", season.Quota{Lists: lists(17)}, api.ErrMany},
		{"the Cap of no rules", season.Quota{}, api.ErrRange},
	} {
		wantQuota(t, row.what, row.q, row.e)
	}
}

// P8.4: the errors of those who have withdrawn, and those that come behind them.
func TestErrorsOfWithdrawn(t *testing.T) {
	for _, row := range []struct {
		what      string
		withdrawn []string
		e         api.Errno
	}{
		{"nobody", nil, api.OK},
		{"who is in no rule", []string{"zoe"}, api.OK},
		{"no name", []string{"ann", ""}, api.ErrName},
		{"a name that is too long", []string{tooLong}, api.ErrName},
		{"twice", []string{"zoe", "bea", "zoe"}, api.ErrTwice},
		{"the first one with an error", []string{"zoe", "zoe", ""}, api.ErrTwice},
		{"as many as possible", names(256), api.OK},
		{"one more", names(257), api.ErrMany},
		{"too many before a wrong one", make([]string, 257), api.ErrMany},
	} {
		want(t, "the model: "+row.what, modelWithdrawn(row.withdrawn), row.e)
		for name, e := range quotaErrors(quota(), row.withdrawn, 2, "") {
			behind := map[string]api.Errno{"Next": api.ErrUnknown, "Withdraw": api.ErrName}
			want(t, name+": "+row.what, e, first(row.e, behind[name]))
		}
		for _, rule := range []int{-1, 2, math.MaxInt, math.MinInt} {
			_, e := season.Next(quota(), row.withdrawn, rule)
			want(t, "Next of no rule: "+row.what, e, first(row.e, api.ErrUnknown))
		}
	}
	_, e := season.Next(season.Quota{Cap: 1}, nil, 0)
	want(t, "Next without rules", e, api.ErrUnknown)
	_, _, e = season.Withdraw(quota(), []string{"ann"}, "ann")
	want(t, "who has withdrawn already", e, api.ErrNone)
	_, _, e = season.Withdraw(quota(), []string{"ann"}, tooLong)
	want(t, "who has a name that is too long", e, api.ErrName)
}

// P8.4: one more may withdraw when as many as possible have withdrawn.
func TestWithdrawBehindMany(t *testing.T) {
	lose, get, e := season.Withdraw(quota(), names(256), "ann")
	want(t, "who loses a place", lose, []string{"ann"})
	want(t, "who gets a place", get, []string{"bea"})
	want(t, "the error", e, api.OK)
}

// P8.4: rules that are full, the limit of nations, and climbers in several rules.
func TestPlaces(t *testing.T) {
	ann, bea, cia, dot := entry("ann", "A"), entry("bea", "A"), entry("cia", "B"), entry("dot", "B")
	for _, row := range []struct {
		what      string
		q         season.Quota
		withdrawn []string
		places    []season.Place
		open      []int
		next      []string
	}{
		{"no rules", season.Quota{Cap: 1}, nil, nil, nil, nil},
		{"no places", season.Quota{Lists: []season.List{list("a", 0, ann)}, Cap: 1}, nil, nil, []int{0}, []string{"ann"}},
		{"no entries", season.Quota{Lists: []season.List{list("a", 2)}, Cap: 1}, nil, nil, []int{2}, []string{""}},
		{"who has a place takes none from the next rule", season.Quota{Lists: []season.List{list("a", 1, ann, bea), list("b", 1, ann, cia, bea)}, Cap: 9},
			nil, []season.Place{place("ann", 0), place("cia", 1)}, []int{0, 0}, []string{"bea", "bea"}},
		{"no place is left, but a nation may have more", season.Quota{Lists: []season.List{list("a", 1, ann, bea, cia)}, Cap: 2},
			nil, []season.Place{place("ann", 0)}, []int{0}, []string{"bea"}},
		{"the next one is of another nation", season.Quota{Lists: []season.List{list("a", 1, ann, bea, cia)}, Cap: 1},
			nil, []season.Place{place("ann", 0)}, []int{0}, []string{"cia"}},
		{"the next one has not withdrawn", season.Quota{Lists: []season.List{list("a", 1, ann, bea, cia, dot)}, Cap: 2},
			[]string{"bea", "cia"}, []season.Place{place("ann", 0)}, []int{0}, []string{"dot"}},
		{"a limit of two", season.Quota{Lists: []season.List{list("a", 3, ann, bea, entry("eva", "A"), cia)}, Cap: 2},
			nil, []season.Place{place("ann", 0), place("bea", 0), place("cia", 0)}, []int{0}, []string{""}},
		{"the limit is one of all rules", season.Quota{Lists: []season.List{list("a", 1, ann), list("b", 2, bea, cia)}, Cap: 1},
			nil, []season.Place{place("ann", 0), place("cia", 1)}, []int{0, 1}, []string{"", ""}},
		{"a place counts for the nation of its entry", season.Quota{Lists: []season.List{list("a", 1, entry("ann", "C")), list("b", 2, ann, bea), list("c", 1, entry("eva", "C"), dot)}, Cap: 1},
			nil, []season.Place{place("ann", 0), place("bea", 1), place("dot", 2)}, []int{0, 1, 0}, []string{"", "", ""}},
		{"the nation of another entry decides", season.Quota{Lists: []season.List{list("a", 1, ann), list("b", 1, entry("bea", "A")), list("c", 1, entry("bea", "B"))}, Cap: 1},
			nil, []season.Place{place("ann", 0), place("bea", 2)}, []int{0, 1, 0}, []string{"", "", ""}},
		{"the order of the entries, not of the names", season.Quota{Lists: []season.List{list("b", 2, dot, ann), list("a", 1, cia, bea)}, Cap: 9},
			nil, []season.Place{place("dot", 0), place("ann", 0), place("cia", 1)}, []int{0, 0}, []string{"", "bea"}},
		{"all have withdrawn", quota(), []string{"eva", "dot", "cia", "bea", "ann"}, nil, []int{2, 2}, []string{"", ""}},
	} {
		places, e := season.Places(row.q, row.withdrawn)
		want(t, "Places: "+row.what, places, row.places)
		want(t, "the error of Places: "+row.what, e, api.OK)
		model, _ := modelPlaces(row.q, row.withdrawn)
		want(t, "the model: "+row.what, model, row.places)
		open, e := season.Open(row.q, row.withdrawn)
		want(t, "Open: "+row.what, open, row.open)
		want(t, "the error of Open: "+row.what, e, api.OK)
		for rule, name := range row.next {
			next, e := season.Next(row.q, row.withdrawn, rule)
			want(t, "Next: "+row.what, next, name)
			want(t, "the error of Next: "+row.what, e, when(name == "", api.ErrNone))
		}
	}
}

// P8.4: who withdraws may move others to other rules, and take places from others by the limit of a nation.
func TestWithdraw(t *testing.T) {
	ann, bea, cia, dot := entry("ann", "A"), entry("bea", "B"), entry("cia", "C"), entry("dot", "A")
	moves := season.Quota{Lists: []season.List{list("a", 1, ann, bea), list("b", 1, bea, cia)}, Cap: 9}
	// Without ann, dot has the place of the nation A in the first rule, and eva, of the same nation, gets none in the second one.
	limit := season.Quota{Lists: []season.List{list("a", 1, cia, dot), list("b", 1, entry("eva", "A"), bea)}, Cap: 1}
	order := season.Quota{Lists: []season.List{
		list("a", 1, entry("zoe", "Z"), entry("yan", "Y")),
		list("b", 1, entry("yan", "X"), entry("Xia", "W")),
		list("c", 1, entry("vic", "Y"), entry("uma", "U")),
	}, Cap: 1}
	for _, row := range []struct {
		what      string
		q         season.Quota
		withdrawn []string
		climber   string
		lose, get []string
	}{
		{"who moves keeps a place", moves, nil, "ann", []string{"ann"}, []string{"cia"}},
		{"the last one of a rule", moves, nil, "bea", []string{"bea"}, []string{"cia"}},
		{"nobody is left", moves, []string{"cia"}, "ann", []string{"ann"}, nil},
		{"another one of the nation loses a place", limit, nil, "cia", []string{"cia", "eva"}, []string{"bea", "dot"}},
		{"by the bytes of the names", order, nil, "zoe", []string{"vic", "zoe"}, []string{"Xia", "uma"}},
	} {
		lose, get, e := season.Withdraw(row.q, row.withdrawn, row.climber)
		want(t, "who loses: "+row.what, lose, row.lose)
		want(t, "who gets: "+row.what, get, row.get)
		want(t, "the error: "+row.what, e, api.OK)
		modelLose, modelGet, _ := modelWithdraw(row.q, row.withdrawn, row.climber)
		want(t, "the model: "+row.what, modelLose, row.lose)
		want(t, "the model: "+row.what, modelGet, row.get)
	}
}

// P8.4: the largest quota.
func TestLargestQuota(t *testing.T) {
	q := season.Quota{Lists: lists(16), Cap: 160}
	for i := range q.Lists {
		q.Lists[i].Count = 160
		for _, x := range entries(160) {
			q.Lists[i].Entries = append(q.Lists[i].Entries, entry(q.Lists[i].Name+x.Climber, q.Lists[i].Name))
		}
	}
	places, e := season.Places(q, nil)
	want(t, "how many places", len(places), 2560)
	want(t, "the error", e, api.OK)
	want(t, "the last place", places[2559], place("c16c160", 15))
	q.Cap = 159
	open, _ := season.Open(q, nil)
	want(t, "what is open with a limit", open, slices.Repeat([]int{1}, 16))
}

// P8.4: quotas of any kind against the model.
func TestQuotasOfAnyKind(t *testing.T) {
	d := draw(5)
	counts := map[int]int{}
	for range 10000 {
		q, withdrawn := d.quota(5, 9), d.some(names(9))
		withdrawn = withdrawn[:min(len(withdrawn), d.Intn(9))]
		places, e := season.Places(q, withdrawn)
		modelPlaces, modelError := modelPlaces(q, withdrawn)
		want(t, "any places", places, modelPlaces)
		want(t, "any error", e, modelError)
		open, _ := season.Open(q, withdrawn)
		modelOpen, _ := modelOpen(q, withdrawn)
		want(t, "what is open", open, modelOpen)
		for rule := range q.Lists {
			next, e := season.Next(q, withdrawn, rule)
			modelNext, modelError := modelNext(q, withdrawn, rule)
			want(t, "any next one", next, modelNext)
			want(t, "any error", e, modelError)
		}
		for _, climber := range names(9) {
			lose, get, e := season.Withdraw(q, withdrawn, climber)
			modelLose, modelGet, modelError := modelWithdraw(q, withdrawn, climber)
			want(t, "who loses a place", lose, modelLose)
			want(t, "who gets a place", get, modelGet)
			want(t, "any error", e, modelError)
			counts[len(lose)]++
		}
	}
	want(t, "whether often several lose a place", counts[2] > 500, true)
}
