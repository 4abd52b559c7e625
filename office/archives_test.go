package office_test

import (
	"math"
	"slices"
	"testing"

	"crux/api"
	"crux/office"
)

// P10.2: example 3.
func TestExampleOfPosts(t *testing.T) {
	all := sure(office.Published(four(), "hall"))
	mine := sheet(2, has("ann", 1, 2))
	for _, row := range []struct {
		n, clock int
		shown    office.Sheet
	}{
		{2, 3, all.Entries[3].Sheet},
		{3, 4, all.Entries[3].Sheet},
		{4, 5, mine},
	} {
		a := sure(office.Post(archive(all.Entries[:row.n]...), "gym", mine))
		want(t, "the entry", a.Entries[0], entry("gym", 1, row.clock, mine))
		want(t, "the others", a.Entries[1:], all.Entries[:row.n])
		gives(t, "what is shown before both are merged", mine)(office.Shown(a, "final"))
		gives(t, "what is shown", row.shown)(office.Shown(sure(office.Merge(a, all)), "final"))
	}
	// With equal clocks the greater desk is shown: hall is above gym, and gym is not above gym.
	three := archive(all.Entries[:3]...)
	a := sure(office.Merge(three, sure(office.Post(archive(all.Entries[:2]...), "gym", mine))))
	want(t, "the clocks", []int{a.Entries[0].Clock, a.Entries[3].Clock}, []int{3, 3})
	gives(t, "what is shown of equal clocks", all.Entries[2].Sheet)(office.Shown(a, "final"))
}

// P10.2: the errors of entries in their order.
func TestErrorsOfEntries(t *testing.T) {
	s, wrong := sheet(1, has("ann", 1)), sheet(0)
	for _, row := range []struct {
		what string
		x    office.Entry
		e    api.Errno
	}{
		{"an entry", entry("hall", 1, 1, s), api.OK},
		{"nothing", office.Entry{}, api.ErrName},
		{"the longest name", entry(longName, 1, 1, s), api.OK},
		{"a name that is too long", entry(tooLong, 1, 1, s), api.ErrName},
		{"the desk before the number", entry("1", 0, 1, s), api.ErrName},
		{"the number 0", entry("hall", 0, 1, s), api.ErrRange},
		{"the greatest number", entry("hall", 1000, 1, s), api.OK},
		{"a number above", entry("hall", 1001, 1, s), api.ErrRange},
		{"the least integer as number", entry("hall", math.MinInt, 1, s), api.ErrRange},
		{"the clock 0", entry("hall", 1, 0, s), api.ErrRange},
		{"the greatest clock", entry("hall", 1, 1000000, s), api.OK},
		{"a clock above", entry("hall", 1, 1000001, s), api.ErrRange},
		{"the greatest integer as clock", entry("hall", 1, math.MaxInt, s), api.ErrRange},
		{"the number before the sheet", entry("hall", 0, 1, office.Sheet{}), api.ErrRange},
		{"the clock before the sheet", entry("hall", 1, 0, office.Sheet{}), api.ErrRange},
		{"the sheet", entry("hall", 1, 1, office.Sheet{}), api.ErrName},
		{"the number of values", entry("hall", 1, 1, wrong), api.ErrRange},
	} {
		want(t, "CheckEntry: "+row.what, office.CheckEntry(row.x), row.e)
		want(t, "the model: "+row.what, modelEntry(row.x), row.e)
		want(t, "CheckArchive: "+row.what, office.CheckArchive(archive(row.x)), row.e)
	}
}

// P10.2: the errors of archives in their order, in all functions that have one.
func TestErrorsOfArchives(t *testing.T) {
	bad := entry("hall", 9, 9, sheet(0))
	for _, row := range []struct {
		what string
		l    []office.Entry
		e    api.Errno
	}{
		{"no entries", nil, api.OK},
		{"the most entries", long("hall", 1000), api.OK},
		{"too many entries", append(long("hall", 1000), at("spa", 1, 1)), api.ErrMany},
		{"too many entries before a wrong one", make([]office.Entry, 1001), api.ErrMany},
		{"several desks with equal clocks", []office.Entry{at("gym", 1, 5), at("hall", 1, 5), at("hall", 2, 6), at("spa", 1, 5)}, api.OK},
		{"clocks that are less at a greater desk", []office.Entry{at("gym", 1, 9), at("hall", 1, 2)}, api.OK},
		{"desks by their bytes", []office.Entry{at("Z", 1, 1), at("a", 1, 1), at("a0", 1, 1), at("aA", 1, 1), at("a_", 1, 1), at("aa", 1, 1), at("b", 1, 1)}, api.OK},
		{"gaps", []office.Entry{at("gym", 3, 1), at("gym", 1000, 7)}, api.OK},
		{"desks in another order", []office.Entry{at("hall", 1, 1), at("gym", 1, 2)}, api.ErrOrder},
		{"great letters behind small ones", []office.Entry{at("a", 1, 1), at("Z", 1, 2)}, api.ErrOrder},
		{"the same entry twice", []office.Entry{at("gym", 1, 1), at("gym", 1, 1)}, api.ErrOrder},
		{"the same number", []office.Entry{at("gym", 1, 1), at("gym", 1, 2)}, api.ErrOrder},
		{"a lesser number", []office.Entry{at("gym", 2, 1), at("gym", 1, 2)}, api.ErrOrder},
		{"the same clock", []office.Entry{at("gym", 1, 4), at("gym", 2, 4)}, api.ErrOrder},
		{"a lesser clock", []office.Entry{at("gym", 1, 4), at("gym", 2, 3)}, api.ErrOrder},
		{"a lesser clock behind another desk", []office.Entry{at("gym", 1, 4), at("hall", 1, 9), at("hall", 2, 8)}, api.ErrOrder},
		{"the entry before its order", []office.Entry{at("hall", 10, 1), bad}, api.ErrRange},
		{"the order before the next entry", []office.Entry{at("hall", 2, 1), at("hall", 1, 1), bad}, api.ErrOrder},
		{"the next entry", []office.Entry{at("hall", 1, 1), at("hall", 2, 2), bad}, api.ErrRange},
	} {
		a := archive(row.l...)
		want(t, "CheckArchive: "+row.what, office.CheckArchive(a), row.e)
		want(t, "the model: "+row.what, modelArchive(a), row.e)
		if row.e == api.OK {
			continue
		}
		fails(t, "Post: "+row.what, row.e)(office.Post(a, "", office.Sheet{}))
		fails(t, "Merge, the first one: "+row.what, row.e)(office.Merge(a, archive(office.Entry{})))
		fails(t, "Merge, the second one: "+row.what, row.e)(office.Merge(archive(at("hall", 1, 1)), a))
		fails(t, "Shown: "+row.what, row.e)(office.Shown(a, ""))
		fails(t, "Rounds: "+row.what, row.e)(office.Rounds(a))
		fails(t, "History: "+row.what, row.e)(office.History(a, ""))
		fails(t, "Vector: "+row.what, row.e)(office.Vector(a))
		fails(t, "Gaps: "+row.what, row.e)(office.Gaps(a))
		fails(t, "Lacking: "+row.what, row.e)(office.Lacking(a, []office.Mark{{}}))
	}
}

// P10.2: the number is the next one of the desk, the clock the next one of the archive.
func TestPost(t *testing.T) {
	s := sheet(2, has("ann", 1, 2), is("ben", "dns"))
	gives(t, "the first entry", archive(entry("hall", 1, 1, s)))(office.Post(archive(), "hall", s))
	l := []office.Entry{at("gym", 2, 3), at("gym", 7, 20), at("hall", 4, 6), at("spa", 1, 15)}
	for _, row := range []struct {
		desk       string
		place      int
		number     int
		laterClock int
	}{
		{"a", 0, 1, 21}, {"gym", 2, 8, 21}, {"h", 2, 1, 21}, {"hall", 3, 5, 21}, {"hall2", 3, 1, 21}, {"spa", 4, 2, 21}, {"z", 4, 1, 21},
	} {
		wanted := slices.Insert(slices.Clone(l), row.place, entry(row.desk, row.number, row.laterClock, s))
		gives(t, "the archive of the desk "+row.desk, archive(wanted...))(office.Post(archive(l...), row.desk, s))
	}
}

// P10.2: the errors of Post.
func TestErrorsOfPost(t *testing.T) {
	s := sheet(1, has("ann", 1))
	fails(t, "the desk before the sheet", api.ErrName)(office.Post(archive(), "1", sheet(0)))
	fails(t, "the sheet", api.ErrRange)(office.Post(archive(), "hall", sheet(0)))
	fails(t, "a desk that is too long", api.ErrName)(office.Post(archive(), tooLong, s))
	fails(t, "the longest desk", api.OK)(office.Post(archive(), longName, s))
	full := archive(long("hall", 1000)...)
	fails(t, "too many entries", api.ErrMany)(office.Post(full, "gym", s))
	fails(t, "too many entries before the number", api.ErrMany)(office.Post(full, "hall", s))
	fails(t, "the desk before too many entries", api.ErrName)(office.Post(full, "", s))
	fails(t, "the sheet before too many entries", api.ErrKind)(office.Post(full, "gym", office.Sheet{Round: "final", Values: 1}))
	a := sure(office.Post(archive(long("hall", 999)...), "hall", s))
	want(t, "the last entry", a.Entries[999], entry("hall", 1000, 1000, s))
	fails(t, "a number above", api.ErrRange)(office.Post(archive(at("hall", 1000, 1)), "hall", s))
	fails(t, "the greatest number of another desk", api.OK)(office.Post(archive(at("hall", 1000, 1)), "gym", s))
	fails(t, "the greatest number", api.OK)(office.Post(archive(at("hall", 999, 1)), "hall", s))
	fails(t, "a clock above", api.ErrRange)(office.Post(archive(at("hall", 1, office.MaxClock)), "gym", s))
	a = sure(office.Post(archive(at("hall", 1, office.MaxClock-1)), "gym", s))
	want(t, "the greatest clock", a.Entries[0].Clock, office.MaxClock)
}

// P10.2: a merged archive has the entries of both, once.
func TestMerge(t *testing.T) {
	a := archive(at("gym", 1, 1), at("gym", 3, 5), at("hall", 2, 2))
	b := archive(at("a", 1, 9), at("gym", 2, 4), at("gym", 3, 5), at("hall", 1, 1), at("spa", 7, 7))
	both := archive(at("a", 1, 9), at("gym", 1, 1), at("gym", 2, 4), at("gym", 3, 5), at("hall", 1, 1), at("hall", 2, 2), at("spa", 7, 7))
	gives(t, "both", both)(office.Merge(a, b))
	gives(t, "both the other way", both)(office.Merge(b, a))
	gives(t, "one and nothing", a)(office.Merge(a, archive()))
	gives(t, "nothing and one", b)(office.Merge(archive(), b))
	gives(t, "nothing", archive())(office.Merge(archive(), archive()))
	gives(t, "one and itself", a)(office.Merge(a, a))
}

// P10.2: entries that differ in anything contradict each other; nil and empty lists are equal.
func TestConflicts(t *testing.T) {
	s := func() office.Sheet { return sheet(2, has("ann", 1, 2), is("ben", "dns")) }
	one := archive(entry("hall", 3, 7, s()))
	for _, row := range []struct {
		what   string
		change func(x *office.Entry)
		e      api.Errno
	}{
		{"the same", func(x *office.Entry) {}, api.OK},
		{"an empty list", func(x *office.Entry) { x.Sheet.Results[1].Values = []int{} }, api.OK},
		{"another clock", func(x *office.Entry) { x.Clock = 8 }, api.ErrConflict},
		{"another round", func(x *office.Entry) { x.Sheet.Round = "semi" }, api.ErrConflict},
		{"another number of values", func(x *office.Entry) { x.Sheet.Values, x.Sheet.Results[0].Values = 1, []int{1} }, api.ErrConflict},
		{"another state", func(x *office.Entry) { x.Sheet.State = "closed" }, api.ErrConflict},
		{"another climber", func(x *office.Entry) { x.Sheet.Results[0].Climber = "cat" }, api.ErrConflict},
		{"another value", func(x *office.Entry) { x.Sheet.Results[0].Values[1] = 3 }, api.ErrConflict},
		{"another state of a result", func(x *office.Entry) { x.Sheet.Results[1].State = "dnf" }, api.ErrConflict},
		{"results in another order", func(x *office.Entry) { slices.Reverse(x.Sheet.Results) }, api.ErrConflict},
		{"a result less", func(x *office.Entry) { x.Sheet.Results = x.Sheet.Results[:1] }, api.ErrConflict},
		{"a result more", func(x *office.Entry) { x.Sheet.Results = append(x.Sheet.Results, is("cat", "dsq")) }, api.ErrConflict},
		{"another number with a later clock", func(x *office.Entry) { x.Number, x.Clock = 4, 8 }, api.OK},
		{"another number with an earlier clock", func(x *office.Entry) { x.Number, x.Clock = 4, 6 }, api.ErrConflict},
		{"another number with the same clock", func(x *office.Entry) { x.Number = 4 }, api.ErrConflict},
		{"a lesser number with a later clock", func(x *office.Entry) { x.Number, x.Clock = 2, 8 }, api.ErrConflict},
		{"another desk", func(x *office.Entry) { x.Desk = "gym" }, api.OK},
	} {
		x := entry("hall", 3, 7, s())
		row.change(&x)
		fails(t, row.what, row.e)(office.Merge(one, archive(x)))
		fails(t, row.what+", the other way", row.e)(office.Merge(archive(x), one))
	}
	// Numbers without a sheet that has values differ by it alone.
	fails(t, "no results and another number of values", api.ErrConflict)(office.Merge(archive(entry("a", 1, 1, sheet(1))), archive(entry("a", 1, 1, sheet(2)))))
}

// P10.2: different entries come before too many ones, and these before the clocks.
func TestErrorsOfMerge(t *testing.T) {
	hall, gym := archive(long("hall", 600)...), archive(long("gym", 400)...)
	fails(t, "the most entries", api.OK)(office.Merge(hall, gym))
	more := archive(append(slices.Clone(gym.Entries), at("h", 1, 1))...)
	fails(t, "too many entries", api.ErrMany)(office.Merge(hall, more))
	fails(t, "many equal entries", api.OK)(office.Merge(archive(long("hall", 1000)...), hall))
	different := archive(append(slices.Clone(more.Entries), at("hall", 1, 2))...)
	fails(t, "different entries before too many", api.ErrConflict)(office.Merge(hall, different))
	late := archive(append(slices.Clone(more.Entries), at("hall", 601, 1))...)
	fails(t, "too many entries before the clocks", api.ErrMany)(office.Merge(hall, late))
	late = archive(append(slices.Clone(gym.Entries[:399]), at("hall", 601, 1))...)
	fails(t, "the clocks", api.ErrConflict)(office.Merge(hall, late))
	fails(t, "the clocks, the other way", api.ErrConflict)(office.Merge(late, hall))
}

// of returns an entry with an empty sheet for a round.
func of(round, desk string, number, clock int) office.Entry {
	return entry(desk, number, clock, office.Sheet{Round: round, Values: number, State: "open"})
}

// P10.2: the newest entry is shown, the history goes from the oldest one to the newest one, and rounds are ascending.
func TestShown(t *testing.T) {
	a := archive(
		of("semi", "Z", 1, 4), of("final", "Z", 2, 9),
		of("final", "gym", 1, 3), of("semi", "gym", 2, 4), of("final", "gym", 3, 8), of("heat", "gym", 4, 11),
		of("final", "gym2", 5, 8), of("B", "gym2", 6, 9),
		of("final", "hall", 3, 2), of("semi", "hall", 4, 3), of("final", "hall", 7, 8),
	)
	gives(t, "the rounds", []string{"B", "final", "heat", "semi"})(office.Rounds(a))
	gives(t, "no rounds", []string(nil))(office.Rounds(archive()))
	for _, row := range []struct {
		round   string
		history []office.Mark
	}{
		{"final", []office.Mark{mark("hall", 3), mark("gym", 1), mark("gym", 3), mark("gym2", 5), mark("hall", 7), mark("Z", 2)}},
		{"semi", []office.Mark{mark("hall", 4), mark("Z", 1), mark("gym", 2)}},
		{"heat", []office.Mark{mark("gym", 4)}},
		{"B", []office.Mark{mark("gym2", 6)}},
	} {
		gives(t, "the history of "+row.round, row.history)(office.History(a, row.round))
		last := row.history[len(row.history)-1].Number
		gives(t, "what is shown of "+row.round, office.Sheet{Round: row.round, Values: last, State: "open"})(office.Shown(a, row.round))
	}
	for _, row := range []struct {
		what, round string
		e           api.Errno
	}{
		{"another round", "b", api.ErrUnknown},
		{"a beginning of a round", "fina", api.ErrUnknown},
		{"no name", "", api.ErrName},
		{"another text", "a b", api.ErrName},
		{"the longest name", longName, api.ErrUnknown},
		{"a name that is too long", tooLong, api.ErrName},
	} {
		fails(t, "Shown: "+row.what, row.e)(office.Shown(a, row.round))
		fails(t, "History: "+row.what, row.e)(office.History(a, row.round))
		fails(t, "Shown of nothing: "+row.what, row.e)(office.Shown(archive(), row.round))
		fails(t, "History of nothing: "+row.what, row.e)(office.History(archive(), row.round))
	}
}

// P10.2: what is shown of several rounds has its lists.
func TestShownResults(t *testing.T) {
	s := sheet(2, has("ann", 1, 2), is("ben", "dsq"), has("cat", -5, 0))
	s.State = "closed"
	a := archive(at("gym", 1, 8), entry("hall", 1, 9, s))
	gives(t, "the sheet", s)(office.Shown(a, "final"))
}

// P10.2: archives as in the model.
func TestArchivesLikeModel(t *testing.T) {
	d := draw(2)
	conflicts, merged := 0, 0
	for range 5000 {
		a := d.whole()
		b := d.part(a)
		if d.Intn(3) == 0 {
			b = d.archive()
		}
		a = d.part(a)
		want(t, "the error of an archive", office.CheckArchive(a), api.OK)
		got, e := office.Merge(a, b)
		wanted, wantedError := modelMerge(a, b)
		want(t, "the merged archive", got, wanted)
		want(t, "the error of the merged archive", e, wantedError)
		if e == api.OK {
			merged++
		} else {
			conflicts++
		}
		desk, s := d.oneOf("a", "b", "gym", "hall"), d.sheet()
		gives(t, "the archive with a sheet", sure(modelPost(a, desk, s)))(office.Post(a, desk, s))
		for _, round := range sure(office.Rounds(a)) {
			gives(t, "the history", sure(modelHistory(a, round)))(office.History(a, round))
			gives(t, "what is shown", sure(modelShown(a, round)))(office.Shown(a, round))
		}
		gives(t, "the rounds", sure(modelRounds(a)))(office.Rounds(a))
	}
	want(t, "whether there were conflicts and none", conflicts > 500 && merged > 500, true)
}
