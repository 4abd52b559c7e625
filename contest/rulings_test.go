package contest_test

import (
	"math"
	"slices"
	"testing"

	"crux/api"
	"crux/contest"
)

// ruling returns a ruling that another entry stands at a number.
func ruling(number int, e contest.Entry) contest.Ruling {
	return contest.Ruling{Number: number, Entry: e}
}

// void returns a ruling that nothing stands at a number.
func void(number int) contest.Ruling {
	return contest.Ruling{Number: number, Void: true}
}

// wrongRulings are lists of rulings with their first errors.
func wrongRulings() []struct {
	what string
	l    []contest.Ruling
	e    api.Errno
} {
	good := ruling(1, entry(0, "fall", 5))
	late := func(x contest.Ruling) []contest.Ruling { return []contest.Ruling{good, x, {}} }
	return []struct {
		what string
		l    []contest.Ruling
		e    api.Errno
	}{
		{"too many", slices.Repeat([]contest.Ruling{{}}, 257), api.ErrMany},
		{"the zero value", []contest.Ruling{{}}, api.ErrRange},
		{"the number 0", late(void(0)), api.ErrRange},
		{"a number below 0", late(ruling(math.MinInt, contest.Entry{})), api.ErrRange},
		{"the number 257", late(ruling(257, entry(9, "x", 0))), api.ErrRange},
		{"the number 257 of nothing", late(contest.Ruling{Number: 257, Void: true, Entry: good.Entry}), api.ErrRange},
		{"nothing with an entry", late(contest.Ruling{Number: 1, Void: true, Entry: good.Entry}), api.ErrForm},
		{"nothing with a climber", late(contest.Ruling{Number: 1, Void: true, Entry: contest.Entry{Climber: 1}}), api.ErrForm},
		{"nothing with a kind", late(contest.Ruling{Number: 1, Void: true, Entry: contest.Entry{Kind: "x"}}), api.ErrForm},
		{"nothing with a value", late(contest.Ruling{Number: 1, Void: true, Entry: contest.Entry{Value: -1}}), api.ErrForm},
		{"nothing with a time", late(contest.Ruling{Number: 1, Void: true, Entry: contest.Entry{Time: 1}}), api.ErrForm},
		{"an unknown climber", late(ruling(1, entry(2, "x", 0))), api.ErrUnknown},
		{"an unknown kind", late(ruling(256, contest.Entry{})), api.ErrKind},
		{"a time below 0", late(ruling(1, entry(0, "fall", -1, 1))), api.ErrRange},
		{"a value that must not be", late(ruling(1, entry(0, "fall", 0, 1))), api.ErrForm},
	}
}

// P5.4: the errors of Apply and Reconcile: those of the round, the logs, the rulings.
func TestErrorsOfRulings(t *testing.T) {
	r, l := leadRound(), leadLog()
	other := with(l, 3, entry(0, "hold", 70000, 11))
	for _, row := range wrongRulings() {
		stand, e := contest.Apply(r, l, row.l)
		want(t, row.what+": Apply", stand, []contest.Entry(nil))
		want(t, row.what+": its error", e, row.e)
		stand, e = contest.Reconcile(r, l, other, row.l)
		want(t, row.what+": Reconcile", stand, []contest.Entry(nil))
		want(t, row.what+": its error", e, row.e)
		_, e = contest.Reconcile(r, l, l, row.l)
		want(t, row.what+": the error without differences", e, row.e)
		_, e = contest.Apply(r, with(l, 1, entry(2, "x", 0)), row.l)
		want(t, row.what+": the error of a wrong log", e, api.ErrUnknown)
	}
	bad := []contest.Ruling{{}}
	kind, many := with(l, 1, contest.Entry{}), slices.Repeat(l[:1], 257)
	_, e := contest.Apply(contest.Round{}, many, bad)
	want(t, "Apply in a wrong round", e, api.ErrKind)
	_, e = contest.Apply(r, many, bad)
	want(t, "Apply to too many entries", e, api.ErrMany)
	_, e = contest.Reconcile(round("speed", 0, 0, 0), many, kind, bad)
	want(t, "Reconcile in a wrong round", e, api.ErrEmpty)
	_, e = contest.Reconcile(r, many, kind, bad)
	want(t, "Reconcile with a wrong first log", e, api.ErrMany)
	_, e = contest.Reconcile(r, l, kind, bad)
	want(t, "Reconcile with a wrong second log", e, api.ErrKind)
	_, e = contest.Reconcile(r, kind, many, bad)
	want(t, "Reconcile with two wrong logs", e, api.ErrKind)
}

// P5.4: a ruling puts another entry in the place of one, or nothing.
func TestApply(t *testing.T) {
	r, l := leadRound(), leadLog()
	x, y, z := entry(0, "bar", 1), entry(1, "bar", 2), entry(1, "absent", 3)
	without := func(n int) []contest.Entry { return slices.Delete(slices.Clone(l), n-1, n) }
	for _, row := range []struct {
		what    string
		l       []contest.Entry
		rulings []contest.Ruling
		want    []contest.Entry
	}{
		{"no rulings", l, nil, l},
		{"nothing at all", nil, nil, nil},
		{"another entry", l, []contest.Ruling{ruling(3, x)}, with(l, 3, x)},
		{"nothing at the first", l, []contest.Ruling{void(1)}, without(1)},
		{"nothing in between", l, []contest.Ruling{void(3)}, without(3)},
		{"nothing at the last", l, []contest.Ruling{void(7)}, without(7)},
		{"nothing, and another behind it", l, []contest.Ruling{void(3), ruling(5, x)}, slices.Delete(with(l, 5, x), 2, 3)},
		{"two about one number", l, []contest.Ruling{ruling(3, x), ruling(3, y)}, with(l, 3, y)},
		{"nothing about one number at last", l, []contest.Ruling{ruling(3, x), ruling(5, y), void(3)}, slices.Delete(with(l, 5, y), 2, 3)},
		{"another entry about one number at last", l, []contest.Ruling{void(3), ruling(3, x)}, with(l, 3, x)},
		{"one behind the log", l, []contest.Ruling{ruling(8, x)}, append(slices.Clone(l), x)},
		{"one far behind the log", l, []contest.Ruling{ruling(256, x)}, append(slices.Clone(l), x)},
		{"nothing behind the log", l, []contest.Ruling{void(8), void(256)}, l},
		{"some behind the log", l, []contest.Ruling{ruling(100, x), ruling(9, y), void(50), ruling(10, z)}, append(slices.Clone(l), y, z, x)},
		{"two about one number behind the log", l, []contest.Ruling{ruling(9, x), ruling(10, y), ruling(9, z)}, append(slices.Clone(l), z, y)},
		{"nothing about one number behind the log at last", l, []contest.Ruling{ruling(9, x), void(9)}, l},
		{"some behind nothing", nil, []contest.Ruling{ruling(2, x), ruling(1, y)}, []contest.Entry{y, x}},
		{"nothing everywhere", l[:2], []contest.Ruling{void(2), void(1)}, nil},
	} {
		stand, e := contest.Apply(r, row.l, row.rulings)
		want(t, row.what, stand, row.want)
		want(t, row.what+": the error", e, api.OK)
	}
}

// P5.4: as many entries as a log may have, and as many rulings.
func TestApplyToTheMost(t *testing.T) {
	r := leadRound()
	x, y := entry(0, "fall", 1), entry(1, "fall", 2)
	var all []contest.Ruling
	for n := 256; n > 0; n-- {
		all = append(all, ruling(n, y))
	}
	for n := range 257 {
		stand, e := contest.Apply(r, slices.Repeat([]contest.Entry{x}, n), all)
		want(t, "rulings about all", stand, slices.Repeat([]contest.Entry{y}, 256))
		want(t, "their error", e, api.OK)
	}
	stand, e := contest.Apply(r, slices.Repeat([]contest.Entry{x}, 256), all[:1])
	want(t, "a ruling about the last one", stand, append(slices.Repeat([]contest.Entry{x}, 255), y))
	want(t, "its error", e, api.OK)
}

// P5.4: the chapter's example 3.
func TestExampleOfRulings(t *testing.T) {
	r, l := leadRound(), leadLog()
	for _, row := range []struct {
		x       contest.Ruling
		values  []int
		changed []int
	}{
		{void(3), []int{20, -70000}, []int{0}},
		{ruling(7, entry(1, "fall", 310000)), []int{60, -210000}, []int{1}},
	} {
		stand, e := contest.Apply(r, l, []contest.Ruling{row.x})
		want(t, "the error of Apply", e, api.OK)
		s, aside, _ := contest.Replay(r, stand)
		want(t, "what is set aside", aside, []contest.Refusal(nil))
		results, _ := contest.Results(r, s)
		want(t, "the result", results[row.changed[0]].Values, row.values)
		changed, _ := contest.Changed(r, l, stand)
		want(t, "Changed", changed, row.changed)
	}
}

// P5.4: two logs differ where an entry is missing, or is not the same.
func TestDifferences(t *testing.T) {
	r, l := leadRound(), leadLog()
	for _, row := range []struct {
		what string
		a, b []contest.Entry
		want []int
	}{
		{"the same log", l, slices.Clone(l), nil},
		{"two empty logs", nil, []contest.Entry{}, nil},
		{"the empty log", l, nil, []int{1, 2, 3, 4, 5, 6, 7}},
		{"the empty log first", nil, l, []int{1, 2, 3, 4, 5, 6, 7}},
		{"a shorter log", l, l[:5], []int{6, 7}},
		{"a longer log", l[:6], l, []int{7}},
		{"another climber", l, with(l, 4, entry(1, "fall", 71000)), []int{4}},
		{"another kind", l, with(l, 4, entry(0, "out", 71000)), []int{4}},
		{"another value", l, with(l, 2, entry(0, "hold", 60000, 11)), []int{2}},
		{"another time", l, with(l, 2, entry(0, "hold", 60001, 10)), []int{2}},
		{"others, and a shorter log", with(l, 1, entry(0, "bar", 0))[:6], with(l, 3, entry(0, "bar", 0)), []int{1, 3, 7}},
		{"an entry that is left out", l, slices.Delete(slices.Clone(l), 4, 5), []int{5, 6, 7}},
	} {
		differ, e := contest.Differences(r, row.a, row.b)
		want(t, row.what, differ, row.want)
		want(t, row.what+": the error", e, api.OK)
	}
}

// P5.4: the errors of Differences.
func TestErrorsOfDifferences(t *testing.T) {
	r, l := leadRound(), leadLog()
	kind, many := with(l, 1, contest.Entry{}), slices.Repeat(l[:1], 257)
	for _, row := range []struct {
		r    contest.Round
		a, b []contest.Entry
		e    api.Errno
	}{
		{round("lead", 1, 0, 0), many, kind, api.ErrRange},
		{r, many, kind, api.ErrMany},
		{r, kind, many, api.ErrKind},
		{r, l, many, api.ErrMany},
		{r, l, kind, api.ErrKind},
	} {
		differ, e := contest.Differences(row.r, row.a, row.b)
		want(t, "Differences", differ, []int(nil))
		want(t, "its error", e, row.e)
	}
}

// P5.4: what both logs have stands, and where they differ, what the rulings say. It names the chapter's example 6.
func TestReconcile(t *testing.T) {
	r, l := leadRound(), leadLog()
	x, y := entry(0, "bar", 1), entry(1, "bar", 2)
	other := with(l, 3, entry(0, "hold", 70000, 11))
	for _, row := range []struct {
		what    string
		a, b    []contest.Entry
		rulings []contest.Ruling
		want    []contest.Entry
		e       api.Errno
	}{
		{"the same log", l, l, nil, l, api.OK},
		{"empty logs", nil, nil, nil, nil, api.OK},
		{"the same log, with rulings that do not matter", l, l, []contest.Ruling{ruling(3, x), void(4), ruling(8, y)}, l, api.OK},
		{"a difference without a ruling", l, other, nil, nil, api.ErrOpen},
		{"a difference with a ruling about another number", l, other, []contest.Ruling{void(2), ruling(4, x)}, nil, api.ErrOpen},
		{"a difference with a ruling", l, other, []contest.Ruling{ruling(3, x)}, with(l, 3, x), api.OK},
		{"a difference of which nothing stands", l, other, []contest.Ruling{void(3)}, slices.Delete(slices.Clone(l), 2, 3), api.OK},
		{"a ruling for the first judge", l, other, []contest.Ruling{ruling(3, l[2])}, l, api.OK},
		{"a ruling for the second judge", l, other, []contest.Ruling{ruling(3, other[2])}, other, api.OK},
		{"two rulings about the difference", l, other, []contest.Ruling{void(3), ruling(3, x), ruling(3, y)}, with(l, 3, y), api.OK},
		{"rulings about other numbers too", l, other, []contest.Ruling{ruling(1, x), ruling(3, y), void(4), ruling(9, x)}, with(l, 3, y), api.OK},
		{"two differences with one ruling", with(l, 5, x), other, []contest.Ruling{void(5)}, nil, api.ErrOpen},
		{"two differences with two rulings", with(l, 5, x), other, []contest.Ruling{ruling(5, y), ruling(3, x)}, with(with(l, 3, x), 5, y), api.OK},
		{"a shorter log without a ruling", l, l[:5], []contest.Ruling{void(6)}, nil, api.ErrOpen},
		{"a shorter log of which nothing stands", l, l[:5], []contest.Ruling{void(7), void(6)}, l[:5], api.OK},
		{"a shorter log first", l[:6], l, []contest.Ruling{ruling(7, x)}, with(l, 7, x), api.OK},
		{"a shorter log and a ruling behind both", l[:6], l, []contest.Ruling{ruling(7, x), ruling(8, y)}, with(l, 7, x), api.OK},
		{"nothing against all", nil, l[:2], []contest.Ruling{ruling(2, y), ruling(1, x)}, []contest.Entry{x, y}, api.OK},
	} {
		stand, e := contest.Reconcile(r, row.a, row.b, row.rulings)
		want(t, row.what, stand, row.want)
		want(t, row.what+": the error", e, row.e)
	}
	differ, _ := contest.Differences(r, l, other)
	want(t, "the difference of the example", differ, []int{3})
}

// P5.4: two logs of the greatest length, with rulings about all differences.
func TestReconcileTheMost(t *testing.T) {
	r := leadRound()
	a, b := slices.Repeat([]contest.Entry{entry(0, "fall", 1)}, 256), slices.Repeat([]contest.Entry{entry(0, "fall", 2)}, 256)
	var all []contest.Ruling
	for n := range 256 {
		all = append(all, ruling(n+1, entry(1, "fall", n)))
	}
	stand, e := contest.Reconcile(r, a, b, all)
	want(t, "its error", e, api.OK)
	want(t, "entries", len(stand), 256)
	want(t, "the last one", stand[255], entry(1, "fall", 255))
	_, e = contest.Reconcile(r, a, b, all[:255])
	want(t, "one ruling less", e, api.ErrOpen)
}

// appeal returns an appeal of a climber against an entry.
func appeal(climber, after int, x contest.Ruling, isUpheld bool) contest.Appeal {
	return contest.Appeal{Climber: climber, After: after, Ruling: x, Upheld: isUpheld}
}

// P5.4: appeals that are admitted and upheld lead to rulings, those that are turned down cost a fee. It names the chapter's example 6.
func TestJudge(t *testing.T) {
	r, l := leadRound(), leadLog()
	change := ruling(3, entry(0, "hold", 70000, 11))
	for _, row := range []struct {
		what    string
		appeals []contest.Appeal
		rulings []contest.Ruling
		fees    []int
	}{
		{"no appeals", nil, nil, []int{0, 0}},
		{"upheld behind 7 entries", []contest.Appeal{appeal(0, 7, change, true)}, []contest.Ruling{change}, []int{0, 0}},
		{"turned down behind 7 entries", []contest.Appeal{appeal(0, 7, change, false)}, nil, []int{50, 0}},
		{"upheld behind 12 entries", []contest.Appeal{appeal(0, 12, change, true)}, nil, []int{0, 0}},
		{"turned down behind 12 entries", []contest.Appeal{appeal(0, 12, change, false)}, nil, []int{0, 0}},
		{"upheld at last", []contest.Appeal{appeal(0, 11, change, true)}, []contest.Ruling{change}, []int{0, 0}},
		{"turned down at last", []contest.Appeal{appeal(0, 11, void(3), false)}, nil, []int{50, 0}},
		{"upheld at once", []contest.Appeal{appeal(0, 3, void(3), true)}, []contest.Ruling{void(3)}, []int{0, 0}},
		{"before the entry", []contest.Appeal{appeal(0, 2, void(3), true), appeal(0, 0, void(1), false)}, nil, []int{0, 0}},
		{"of another climber", []contest.Appeal{appeal(1, 7, change, true), appeal(1, 7, change, false)}, nil, []int{0, 0}},
		{"of the second climber", []contest.Appeal{appeal(1, 7, void(7), true)}, []contest.Ruling{void(7)}, []int{0, 0}},
		{"for an entry of another climber", []contest.Appeal{appeal(1, 7, ruling(7, entry(0, "bar", 0)), true)}, []contest.Ruling{ruling(7, entry(0, "bar", 0))}, []int{0, 0}},
		{"two about one number, both upheld", []contest.Appeal{appeal(0, 7, change, true), appeal(0, 8, void(3), true)}, []contest.Ruling{change}, []int{0, 0}},
		{"two about one number, the first turned down", []contest.Appeal{appeal(0, 7, change, false), appeal(0, 8, void(3), true)}, nil, []int{50, 0}},
		{"two about one number, both turned down", []contest.Appeal{appeal(0, 7, change, false), appeal(0, 8, change, false)}, nil, []int{50, 0}},
		{"two about one number, the first too late", []contest.Appeal{appeal(0, 12, change, true), appeal(0, 8, void(3), true)}, []contest.Ruling{void(3)}, []int{0, 0}},
		{"two about one number, the first of another", []contest.Appeal{appeal(1, 7, change, false), appeal(0, 8, void(3), false)}, nil, []int{50, 0}},
		{"several turned down", []contest.Appeal{appeal(0, 7, void(1), false), appeal(1, 7, void(5), false), appeal(0, 7, void(2), false), appeal(0, 9, void(4), false)}, nil, []int{150, 50}},
		{"several upheld, in their order", []contest.Appeal{appeal(1, 7, void(5), true), appeal(0, 7, void(4), false), appeal(0, 7, change, true), appeal(0, 7, void(1), true)}, []contest.Ruling{void(5), change, void(1)}, []int{50, 0}},
	} {
		rulings, fees, e := contest.Judge(r, l, row.appeals)
		want(t, row.what+": the rulings", rulings, row.rulings)
		want(t, row.what+": what they pay", fees, row.fees)
		want(t, row.what+": the error", e, api.OK)
	}
}

// P5.4: the errors of Judge: those of the round, the log, the appeals.
func TestErrorsOfJudge(t *testing.T) {
	r, l := leadRound(), leadLog()
	good := appeal(0, 7, void(3), true)
	late := func(x contest.Appeal) []contest.Appeal { return []contest.Appeal{good, x, {Climber: -1}} }
	for _, row := range []struct {
		what    string
		r       contest.Round
		l       []contest.Entry
		appeals []contest.Appeal
		e       api.Errno
	}{
		{"a wrong round", contest.Round{}, with(l, 1, contest.Entry{}), late(contest.Appeal{}), api.ErrKind},
		{"a wrong log", r, with(l, 1, entry(5, "x", 0)), late(contest.Appeal{}), api.ErrUnknown},
		{"too many entries", r, slices.Repeat(l[:1], 257), late(contest.Appeal{}), api.ErrMany},
		{"too many appeals", r, l, slices.Repeat([]contest.Appeal{{Climber: 9}}, 257), api.ErrMany},
		{"as many appeals as possible", r, l, slices.Repeat([]contest.Appeal{good}, 256), api.OK},
		{"an unknown climber", r, l, late(appeal(2, -1, void(0), true)), api.ErrUnknown},
		{"a climber below 0", r, l, late(appeal(-1, 7, void(3), true)), api.ErrUnknown},
		{"behind less than no entries", r, l, late(appeal(0, -1, void(8), true)), api.ErrRange},
		{"behind too many entries", r, l, late(appeal(0, 257, void(8), true)), api.ErrRange},
		{"behind the most entries", r, l, []contest.Appeal{good, appeal(0, 256, void(3), true)}, api.OK},
		{"behind no entries", r, l, []contest.Appeal{good, appeal(0, 0, void(3), true)}, api.OK},
		{"the number 0", r, l, late(appeal(0, 7, void(0), true)), api.ErrRange},
		{"the number 257", r, l, late(appeal(0, 7, void(257), true)), api.ErrRange},
		{"nothing with an entry", r, l, late(appeal(0, 7, contest.Ruling{Number: 9, Void: true, Entry: l[0]}, true)), api.ErrForm},
		{"an entry of an unknown climber", r, l, late(appeal(0, 7, ruling(9, entry(2, "x", 0)), true)), api.ErrUnknown},
		{"an entry of an unknown kind", r, l, late(appeal(0, 7, ruling(9, entry(0, "x", 0)), true)), api.ErrKind},
		{"a number behind the log", r, l, late(appeal(0, 8, ruling(8, l[0]), true)), api.ErrUnknown},
		{"nothing behind the log", r, l, late(appeal(0, 8, void(8), true)), api.ErrUnknown},
		{"the last entry", r, l, []contest.Appeal{good, appeal(1, 8, void(7), true)}, api.OK},
		{"an empty log", r, nil, []contest.Appeal{appeal(0, 1, void(1), true)}, api.ErrUnknown},
	} {
		rulings, fees, e := contest.Judge(row.r, row.l, row.appeals)
		want(t, row.what+": the error", e, row.e)
		if row.e != api.OK {
			want(t, row.what+": the rulings", rulings, []contest.Ruling(nil))
			want(t, row.what+": what they pay", fees, []int(nil))
		}
	}
}

// ruling returns a ruling about one of the first n numbers.
func (d drawing) ruling(r contest.Round, n int) contest.Ruling {
	if d.Intn(3) == 0 {
		return void(1 + d.Intn(n))
	}
	return ruling(1+d.Intn(n), d.entry(r, d.Intn(20)))
}

// P5.4: any rulings, differences and appeals, place by place.
func TestRulingsAgainstTheModel(t *testing.T) {
	d := draw(4)
	for range 3000 {
		r := d.round()
		a, b := d.entries(r, 8), d.entries(r, 8)
		if d.Intn(2) == 0 {
			b = slices.Clone(a[:d.Intn(len(a)+1)])
		}
		var rulings []contest.Ruling
		for range d.Intn(9) {
			rulings = append(rulings, d.ruling(r, 12))
		}
		stand, _ := contest.Apply(r, a, rulings)
		want(t, "Apply", stand, modelStand(a, rulings, func(int) bool { return true }))
		var differ []int
		isOpen := false
		for n := 1; n <= 8; n++ {
			if !slices.Equal(modelAt(a, n), modelAt(b, n)) {
				differ = append(differ, n)
				isOpen = isOpen || !slices.ContainsFunc(rulings, func(x contest.Ruling) bool { return x.Number == n })
			}
		}
		got, _ := contest.Differences(r, a, b)
		want(t, "Differences", got, differ)
		stand, e := contest.Reconcile(r, a, b, rulings)
		want(t, "whether something is open", e == api.ErrOpen, isOpen)
		if !isOpen {
			want(t, "Reconcile", stand, modelStand(a, rulings, func(n int) bool { return slices.Contains(differ, n) }))
		}
	}
}

// entries returns up to n entries of any kind.
func (d drawing) entries(r contest.Round, n int) []contest.Entry {
	var l []contest.Entry
	for range d.Intn(n + 1) {
		l = append(l, d.entry(r, d.Intn(20)))
	}
	return l
}

// modelAt returns the entry with a number, if there is one.
func modelAt(l []contest.Entry, n int) []contest.Entry {
	if n > len(l) {
		return nil
	}
	return l[n-1 : n]
}

// modelStand returns what stands behind rulings, of which those count whose numbers do.
func modelStand(l []contest.Entry, rulings []contest.Ruling, counts func(n int) bool) []contest.Entry {
	var stand []contest.Entry
	for n := 1; n <= 256; n++ {
		x := modelAt(l, n)
		for _, ruling := range rulings {
			if ruling.Number != n || !counts(n) {
				continue
			}
			x = nil
			if !ruling.Void {
				x = []contest.Entry{ruling.Entry}
			}
		}
		stand = append(stand, x...)
	}
	return stand
}
