package office_test

import (
	"math"
	"slices"
	"strconv"
	"strings"
	"testing"

	"crux/api"
	"crux/office"
)

// P10.4: examples 1 and 5.
func TestExampleOfEvents(t *testing.T) {
	b := book(t, four()...)
	want(t, "the book", b, office.Book{Sheets: []office.Sheet{sheet(2, has("ann", 34, 1), has("ben", 34, 0), is("cat", "dns"))}})
	b = book(t, append(four(), posted(5, "final", "ben", "35,0"))...)
	gives(t, "the ranks", []int{2, 1, 3})(office.Ranks(b.Sheets[0]))
	five := append(four(), posted(5, "final", "ben", "35,0"))
	want(t, "the close", office.Accepts(five, closed(6, "final")), api.OK)
	six := append(five, closed(6, "final"))
	want(t, "a result behind the close", office.Accepts(six, posted(7, "final", "ann", "35")), api.ErrOver)
	want(t, "the result without the close", office.Accepts(five, posted(6, "final", "ann", "35")), api.ErrShape)
}

// P10.4: the errors of events by themselves in their order.
func TestErrorsOfEvents(t *testing.T) {
	event := func(kind string, names []string, values []int, text string) api.Event {
		return api.Event{Number: 1, Kind: kind, Names: names, Values: values, Text: text}
	}
	one, two := []string{"r"}, []string{"r", "c"}
	number := []int{1}
	for _, row := range []struct {
		what string
		e    api.Event
		err  api.Errno
	}{
		{"open", event("open", one, number, ""), api.OK},
		{"post", event("post", two, nil, "1,2"), api.OK},
		{"drop", event("drop", two, nil, ""), api.OK},
		{"close", event("close", one, nil, ""), api.OK},
		{"reopen", event("reopen", one, nil, ""), api.OK},
		{"undo", event("undo", nil, nil, ""), api.OK},
		{"post without a text", event("post", two, nil, ""), api.OK},
		{"post with any text", event("post", two, nil, " a\x00\xff\r b "), api.OK},
		{"the number 0", undone(0), api.ErrRange},
		{"the greatest number", undone(1000), api.OK},
		{"a number above", undone(1001), api.ErrRange},
		{"the least integer", undone(math.MinInt), api.ErrRange},
		{"the number before the kind", api.Event{}, api.ErrRange},
		{"no kind", event("", nil, nil, ""), api.ErrKind},
		{"another kind", event("Open", one, number, ""), api.ErrKind},
		{"a question", event("rounds", nil, nil, ""), api.ErrKind},
		{"a kind with a blank", event("undo ", nil, nil, ""), api.ErrKind},
		{"the kind before the names", event("sheet", one, nil, "|"), api.ErrKind},
		{"open without a name", event("open", nil, number, ""), api.ErrShape},
		{"open with two names", event("open", two, number, ""), api.ErrShape},
		{"open without a value", event("open", one, nil, ""), api.ErrShape},
		{"open with two values", event("open", one, []int{1, 2}, ""), api.ErrShape},
		{"post with one name", event("post", one, nil, "1"), api.ErrShape},
		{"post with three names", event("post", []string{"r", "c", "d"}, nil, "1"), api.ErrShape},
		{"post with a value", event("post", two, number, "1"), api.ErrShape},
		{"drop with one name", event("drop", one, nil, ""), api.ErrShape},
		{"drop with a value", event("drop", two, number, ""), api.ErrShape},
		{"close with two names", event("close", two, nil, ""), api.ErrShape},
		{"close without a name", event("close", nil, nil, ""), api.ErrShape},
		{"close with a value", event("close", one, number, ""), api.ErrShape},
		{"reopen without a name", event("reopen", nil, nil, ""), api.ErrShape},
		{"reopen with a value", event("reopen", one, number, ""), api.ErrShape},
		{"undo with a name", event("undo", one, nil, ""), api.ErrShape},
		{"undo with a value", event("undo", nil, number, ""), api.ErrShape},
		{"the shape before a name", event("close", []string{"", ""}, nil, ""), api.ErrShape},
		{"the shape of the values before a name", event("open", []string{""}, nil, ""), api.ErrShape},
		{"no name", event("close", []string{""}, nil, ""), api.ErrName},
		{"the second name", event("drop", []string{"r", "1"}, nil, ""), api.ErrName},
		{"the longest names", event("drop", []string{longName, longName}, nil, ""), api.OK},
		{"a name that is too long", event("drop", []string{longName, tooLong}, nil, ""), api.ErrName},
		{"a name before a value", event("open", []string{"a b"}, []int{-1}, ""), api.ErrName},
		{"the value 0", event("open", one, []int{0}, ""), api.OK},
		{"the greatest value", event("open", one, []int{api.MaxNumber}, ""), api.OK},
		{"a value below", event("open", one, []int{-1}, ""), api.ErrRange},
		{"a value above", event("open", one, []int{api.MaxNumber + 1}, ""), api.ErrRange},
		{"the greatest integer", event("open", one, []int{math.MaxInt}, ""), api.ErrRange},
		{"a value before the text", event("open", one, []int{-1}, "x"), api.ErrRange},
		{"a name before the text", event("post", []string{"", "c"}, nil, "|"), api.ErrName},
		{"a text of open", event("open", one, number, "x"), api.ErrForm},
		{"a text of drop", event("drop", two, nil, " "), api.ErrForm},
		{"a text of close", event("close", one, nil, "x"), api.ErrForm},
		{"a text of reopen", event("reopen", one, nil, "x"), api.ErrForm},
		{"a text of undo", event("undo", nil, nil, "x"), api.ErrForm},
		{"a line feed", event("post", two, nil, "1\n"), api.ErrForm},
		{"a bar", event("post", two, nil, "|1"), api.ErrForm},
		{"the longest text", event("post", two, nil, strings.Repeat(" ", 4096)), api.OK},
		{"a text that is too long", event("post", two, nil, strings.Repeat("1", 4097)), api.ErrLong},
		{"bytes, not letters", event("post", two, nil, strings.Repeat("\u00e9", 2049)), api.ErrLong},
		{"a bar before the length", event("post", two, nil, strings.Repeat("1", 4097)+"|"), api.ErrForm},
		{"a long text of undo", event("undo", nil, nil, strings.Repeat("1", 4097)), api.ErrForm},
	} {
		want(t, "CheckEvent: "+row.what, office.CheckEvent(row.e), row.err)
		want(t, "the model: "+row.what, modelEvent(row.e), row.err)
		if row.err == api.OK {
			continue
		}
		want(t, "Accepts: "+row.what, office.Accepts(turns(1000), row.e), row.err)
		_, place, err := office.Replay([]api.Event{opened(1, "final", 2), row.e, {}})
		want(t, "Replay: "+row.what, err, row.err)
		want(t, "the place: "+row.what, place, 2)
		fails(t, "Append: "+row.what, row.err)(office.Append(log(four()), row.e))
	}
}

// book returns the book after events that are accepted.
func book(t *testing.T, l ...api.Event) office.Book {
	t.Helper()
	b, place, e := office.Replay(l)
	want(t, "the place", place, 0)
	want(t, "the error", e, api.OK)
	return b
}

// accepted examines whether an event is accepted after others, or the error with which it is not, in all functions that return it.
func accepted(t *testing.T, what string, l []api.Event, e api.Event, wanted api.Errno) {
	t.Helper()
	want(t, "Accepts: "+what, office.Accepts(l, e), wanted)
	want(t, "the model: "+what, modelAccepts(l, e), wanted)
	b, place, err := office.Replay(append(slices.Clone(l), e, api.Event{}))
	want(t, "Replay: "+what, err, first(wanted, api.ErrRange))
	want(t, "the book: "+what, b, office.Book{})
	if wanted == api.OK {
		want(t, "the place: "+what, place, len(l)+2)
		return
	}
	want(t, "the place: "+what, place, len(l)+1)
	fails(t, "Published: "+what, wanted)(office.Published(append(slices.Clone(l), e), ""))
	text := log(append(slices.Clone(l), e))
	s, err := office.Load(text)
	want(t, "Load: "+what, err, wanted)
	want(t, "the session: "+what, s == nil, true)
	session := sure(office.Load(log(l)))
	answer, err := session.Do(lineOf(e))
	want(t, "Do: "+what, err, wanted)
	want(t, "the answer: "+what, answer, "")
	want(t, "the events: "+what, session.Events(), l)
	want(t, "the log: "+what, session.Log(), log(l))
}

// P10.4: numbers follow each other from 1 on, before anything else.
func TestOrderOfEvents(t *testing.T) {
	want(t, "a first number above", office.Accepts(nil, opened(2, "final", 1)), api.ErrOrder)
	want(t, "the first number", office.Accepts(nil, opened(1, "final", 1)), api.OK)
	want(t, "the same number", office.Accepts(four(), undone(4)), api.ErrOrder)
	want(t, "a number above", office.Accepts(four(), undone(6)), api.ErrOrder)
	want(t, "the next number", office.Accepts(four(), undone(5)), api.OK)
	want(t, "the number before a sheet that is not there", office.Accepts(four(), closed(6, "semi")), api.ErrOrder)
	want(t, "the number before the result", office.Accepts(four(), posted(3, "final", "ann", "x")), api.ErrOrder)
	_, place, e := office.Replay([]api.Event{opened(1, "final", 1), opened(3, "semi", 1)})
	want(t, "the error", e, api.ErrOrder)
	want(t, "the place", place, 2)
	_, place, e = office.Replay([]api.Event{undone(7), {}})
	want(t, "the error of the first one", e, api.ErrOrder)
	want(t, "the place of the first one", place, 1)
}

// P10.4: which sheets can be opened.
func TestOpen(t *testing.T) {
	one := []api.Event{opened(1, "final", 16)}
	accepted(t, "a round twice", one, opened(2, "final", 1), api.ErrTwice)
	accepted(t, "a round twice before the number of values", one, opened(2, "final", 0), api.ErrTwice)
	accepted(t, "no values", one, opened(2, "semi", 0), api.ErrRange)
	accepted(t, "too many values", one, opened(2, "semi", 17), api.ErrRange)
	accepted(t, "the most values", one, opened(2, "semi", 16), api.OK)
	accepted(t, "one value", one, opened(2, "semi", 1), api.OK)
	accepted(t, "another round", one, opened(2, "Final", 1), api.OK)
	undone := append(slices.Clone(one), undone(2))
	accepted(t, "a round that is not there any more", undone, opened(3, "final", 1), api.OK)
	var l []api.Event
	for i, name := range names(64) {
		accepted(t, "the most sheets", l, opened(i+1, name, 1), api.OK)
		l = append(l, opened(i+1, name, 1))
	}
	accepted(t, "too many sheets", l, opened(65, "final", 1), api.ErrMany)
	accepted(t, "the number of values before too many sheets", l, opened(65, "final", 0), api.ErrRange)
	accepted(t, "a round twice before too many sheets", l, opened(65, "c64", 1), api.ErrTwice)
	want(t, "the number of sheets", len(book(t, l...).Sheets), 64)
}

// P10.4: which results can be posted.
func TestPostedResults(t *testing.T) {
	final := []api.Event{opened(1, "final", 2), posted(2, "final", "ann", "3,4"), posted(3, "final", "ben", "dnf")}
	over := append(slices.Clone(final), closed(4, "final"))
	accepted(t, "no sheet", final, posted(4, "semi", "ann", "x"), api.ErrUnknown)
	accepted(t, "a closed sheet", over, posted(5, "final", "ann", "1,2"), api.ErrOver)
	accepted(t, "a closed sheet before the text", over, posted(5, "final", "ann", "x"), api.ErrOver)
	accepted(t, "a closed sheet before the same result", over, posted(5, "final", "ann", "3,4"), api.ErrOver)
	accepted(t, "an open one again", append(over, reopened(5, "final")), posted(6, "final", "ann", "1,2"), api.OK)
	for _, row := range []struct {
		text string
		e    api.Errno
	}{
		{"5,6", api.OK}, {"0,0", api.OK}, {"-1,-999999999", api.OK}, {"999999999,10", api.OK}, {"dns", api.OK}, {"dnf", api.OK}, {"dsq", api.OK},
		{"3,5", api.OK}, {"4,4", api.OK}, {"3,-4", api.OK},
		{"", api.ErrSyntax}, {",", api.ErrSyntax}, {"1,", api.ErrSyntax}, {",1", api.ErrSyntax}, {"1,,2", api.ErrSyntax}, {"1 2", api.ErrSyntax},
		{"1, 2", api.ErrSyntax}, {" 1,2", api.ErrSyntax}, {"1,2 ", api.ErrSyntax}, {"01,2", api.ErrSyntax}, {"1,00", api.ErrSyntax}, {"-0,1", api.ErrSyntax},
		{"-01,1", api.ErrSyntax}, {"+1,2", api.ErrSyntax}, {"--1,2", api.ErrSyntax}, {"-,2", api.ErrSyntax}, {"1_0,2", api.ErrSyntax}, {"0x1,2", api.ErrSyntax},
		{"1000000000,1", api.ErrSyntax}, {"1,-1000000000", api.ErrSyntax}, {"99999999999999999999,1", api.ErrSyntax}, {"1.0,2", api.ErrSyntax}, {"1e1,2", api.ErrSyntax},
		{"\u0661,2", api.ErrSyntax}, {"1,x", api.ErrSyntax}, {"DNS", api.ErrSyntax}, {"dns,1", api.ErrSyntax}, {"dns,dns", api.ErrSyntax}, {"dnsq", api.ErrSyntax}, {"1,dns", api.ErrSyntax},
		{"1", api.ErrShape}, {"3", api.ErrShape}, {"1,2,3", api.ErrShape}, {strings.Repeat("1,", 2047) + "1", api.ErrShape},
		{"1,2,x", api.ErrSyntax}, {"3,4", api.ErrTwice},
	} {
		accepted(t, "the text "+row.text, final, posted(4, "final", "ann", row.text), row.e)
	}
	accepted(t, "the same state", final, posted(4, "final", "ben", "dnf"), api.ErrTwice)
	accepted(t, "another state", final, posted(4, "final", "ben", "dsq"), api.OK)
	accepted(t, "the result of another climber", final, posted(4, "final", "cat", "3,4"), api.OK)
	again := append(slices.Clone(final), posted(4, "final", "ann", "5,6"))
	accepted(t, "an earlier result", again, posted(5, "final", "ann", "3,4"), api.OK)
	accepted(t, "the latest result", again, posted(5, "final", "ann", "5,6"), api.ErrTwice)
}

// P10.4: results of at most so many climbers.
func TestManyResults(t *testing.T) {
	l := []api.Event{opened(1, "final", 1), opened(2, "semi", 1)}
	for i, name := range names(160) {
		l = append(l, posted(i+3, "final", name, "1"))
	}
	b := book(t, l...)
	want(t, "the results", b.Sheets[0].Results, many(160))
	accepted(t, "too many results", l, posted(163, "final", "ann", "1"), api.ErrMany)
	accepted(t, "the number of values before too many results", l, posted(163, "final", "ann", "1,2"), api.ErrShape)
	accepted(t, "the text before too many results", l, posted(163, "final", "ann", ""), api.ErrSyntax)
	accepted(t, "another result of the first climber", l, posted(163, "final", "c1", "2"), api.OK)
	accepted(t, "another result of the last climber", l, posted(163, "final", "c160", "2"), api.OK)
	accepted(t, "the same result of a climber", l, posted(163, "final", "c160", "1"), api.ErrTwice)
	accepted(t, "a result of another round", l, posted(163, "semi", "ann", "1"), api.OK)
	accepted(t, "a result in the place of another one", append(l, dropped(163, "final", "c1")), posted(164, "final", "ann", "1"), api.OK)
}

// P10.4: what can be taken away, closed, opened again, and undone.
func TestOtherKinds(t *testing.T) {
	empty := []api.Event{opened(1, "final", 2)}
	final := append(slices.Clone(empty), posted(2, "final", "ann", "3,4"))
	over := append(slices.Clone(final), closed(3, "final"))
	accepted(t, "drop without a sheet", final, dropped(3, "semi", "ann"), api.ErrUnknown)
	accepted(t, "drop of a closed sheet", over, dropped(4, "final", "ann"), api.ErrOver)
	accepted(t, "drop of a closed sheet before the climber", over, dropped(4, "final", "ben"), api.ErrOver)
	accepted(t, "drop without a result", final, dropped(3, "final", "ben"), api.ErrUnknown)
	accepted(t, "drop", final, dropped(3, "final", "ann"), api.OK)
	accepted(t, "drop again", append(slices.Clone(final), dropped(3, "final", "ann")), dropped(4, "final", "ann"), api.ErrUnknown)
	accepted(t, "close without a sheet", final, closed(3, "semi"), api.ErrUnknown)
	accepted(t, "close again", over, closed(4, "final"), api.ErrTwice)
	accepted(t, "close without results", empty, closed(2, "final"), api.ErrEmpty)
	accepted(t, "close without results any more", append(slices.Clone(final), dropped(3, "final", "ann")), closed(4, "final"), api.ErrEmpty)
	accepted(t, "close", final, closed(3, "final"), api.OK)
	accepted(t, "reopen without a sheet", over, reopened(4, "semi"), api.ErrUnknown)
	accepted(t, "reopen of an open sheet", final, reopened(3, "final"), api.ErrState)
	accepted(t, "reopen", over, reopened(4, "final"), api.OK)
	accepted(t, "reopen again", append(slices.Clone(over), reopened(4, "final")), reopened(5, "final"), api.ErrState)
	accepted(t, "undo without events", nil, undone(1), api.ErrEmpty)
	accepted(t, "undo", empty, undone(2), api.OK)
	accepted(t, "undo again", append(slices.Clone(empty), undone(2)), undone(3), api.ErrEmpty)
	accepted(t, "undo behind all", append(slices.Clone(final), undone(3), undone(4)), undone(5), api.ErrEmpty)
}

// P10.4: what each event does to the book.
func TestBooks(t *testing.T) {
	l := []api.Event{
		opened(1, "final", 1), opened(2, "semi", 2), posted(3, "final", "ann", "1"), posted(4, "final", "ben", "2"), posted(5, "final", "cat", "dsq"),
		posted(6, "final", "ann", "7"), dropped(7, "final", "ben"), posted(8, "final", "ben", "-3"), posted(9, "final", "cat", "4"), posted(10, "semi", "ann", "dns"),
		closed(11, "semi"), posted(12, "final", "ann", "dnf"), reopened(13, "semi"),
	}
	books := [][][]api.Result{
		{nil}, {nil, nil},
		{{has("ann", 1)}, nil},
		{{has("ann", 1), has("ben", 2)}, nil},
		{{has("ann", 1), has("ben", 2), is("cat", "dsq")}, nil},
		{{has("ann", 7), has("ben", 2), is("cat", "dsq")}, nil},
		{{has("ann", 7), is("cat", "dsq")}, nil},
		{{has("ann", 7), is("cat", "dsq"), has("ben", -3)}, nil},
		{{has("ann", 7), has("cat", 4), has("ben", -3)}, nil},
		{{has("ann", 7), has("cat", 4), has("ben", -3)}, {is("ann", "dns")}},
		{{has("ann", 7), has("cat", 4), has("ben", -3)}, {is("ann", "dns")}},
		{{is("ann", "dnf"), has("cat", 4), has("ben", -3)}, {is("ann", "dns")}},
		{{is("ann", "dnf"), has("cat", 4), has("ben", -3)}, {is("ann", "dns")}},
	}
	want(t, "the book of nothing", book(t), office.Book{})
	at := func(i int) office.Book {
		wanted := []office.Sheet{{Round: "final", Values: 1, State: "open"}, {Round: "semi", Values: 2, State: "open"}}[:len(books[i])]
		for j := range wanted {
			wanted[j].Results = books[i][j]
		}
		if i == 10 || i == 11 {
			wanted[1].State = "closed"
		}
		return office.Book{Sheets: wanted}
	}
	for i := range l {
		want(t, "the book after "+strconv.Itoa(i+1), book(t, l[:i+1]...), at(i))
	}
	// Each undo leads one book back.
	for i := len(l) - 2; i >= 0; i-- {
		l = append(l, undone(len(l)+1))
		want(t, "the book back at "+strconv.Itoa(i+1), book(t, l...), at(i))
	}
	want(t, "the book with everything undone", book(t, append(l, undone(len(l)+1))...), office.Book{})
}

// P10.4: an undo takes away the last event that counts, and is no event that another one could take away.
func TestUndo(t *testing.T) {
	l := append(four(), undone(5), undone(6))
	want(t, "two undos", book(t, l...).Sheets[0].Results, []api.Result{has("ann", 34, 1)})
	l = append(l, posted(7, "final", "dan", "1,1"), undone(8), undone(9))
	want(t, "another event in between", book(t, l...).Sheets[0].Results, []api.Result(nil))
	l = append(l, undone(10), opened(11, "semi", 3))
	want(t, "another sheet", book(t, l...).Sheets, []office.Sheet{{Round: "semi", Values: 3, State: "open"}})
	accepted(t, "no undo behind that", append(l, undone(12)), undone(13), api.ErrEmpty)
}

// P10.4: at most so many events.
func TestManyEvents(t *testing.T) {
	l := turns(1000)
	want(t, "the results", book(t, l...).Sheets[0].Results, []api.Result{has("ann", 1000)})
	want(t, "the last event", office.Accepts(l[:999], l[999]), api.OK)
	want(t, "one more", office.Accepts(l, undone(1000)), api.ErrMany)
	want(t, "one more with an error of its own", office.Accepts(l, undone(1001)), api.ErrRange)
	more := append(slices.Clone(l), undone(1001))
	want(t, "too many before", office.Accepts(more, api.Event{}), api.ErrMany)
	_, place, e := office.Replay(more)
	want(t, "the error of too many", e, api.ErrMany)
	want(t, "the place of too many", place, 0)
	_, place, e = office.Replay(make([]api.Event, 1001))
	want(t, "the error of too many before a wrong one", e, api.ErrMany)
	want(t, "the place of too many before a wrong one", place, 0)
	fails(t, "Published of too many", api.ErrMany)(office.Published(more, ""))
	a := sure(office.Published(l, "hall"))
	want(t, "the number of entries", len(a.Entries), 1000)
	want(t, "the error of the archive", office.CheckArchive(a), api.OK)
	want(t, "the last entry", a.Entries[999], entry("hall", 1000, 1000, sheet(1, has("ann", 1000))))
	want(t, "the first error of Accepts", office.Accepts([]api.Event{opened(2, "final", 1)}, api.Event{}), api.ErrOrder)
}

// P10.4: example 2, and sheets that are changed, opened, undone and opened again.
func TestPublished(t *testing.T) {
	r := func(n int) []api.Result {
		return []api.Result{has("ann", 34, 1), has("ben", 34, 0), is("cat", "dns")}[:n]
	}
	all := []office.Entry{}
	for i := range 4 {
		all = append(all, entry("hall", i+1, i+1, sheet(2, r(i)...)))
	}
	gives(t, "example 2", archive(all...))(office.Published(four(), "hall"))
	gives(t, "nothing", archive())(office.Published(nil, "hall"))
	l := append(four(), closed(5, "final"), undone(6), undone(7), opened(8, "semi", 1), posted(9, "semi", "ann", "5"), undone(10), undone(11), opened(12, "semi", 2), dropped(13, "final", "ann"))
	over := sheet(2, r(3)...)
	over.State = "closed"
	semi := func(values int, l ...api.Result) office.Sheet {
		return office.Sheet{Round: "semi", Values: values, State: "open", Results: l}
	}
	for _, s := range []office.Sheet{over, sheet(2, r(3)...), sheet(2, r(2)...), semi(1), semi(1, has("ann", 5)), semi(1), semi(2), sheet(2, r(2)[1:]...)} {
		all = append(all, entry("hall", len(all)+1, len(all)+1, s))
	}
	// The event 11 takes a sheet away, so nothing is posted.
	gives(t, "many kinds", archive(all...))(office.Published(l, "hall"))
	gives(t, "a sheet that is not there any more", semi(2))(office.Shown(archive(all...), "semi"))
}

// P10.4: the errors of Published.
func TestErrorsOfPublished(t *testing.T) {
	fails(t, "no desk", api.ErrName)(office.Published(four(), ""))
	fails(t, "a desk that is too long", api.ErrName)(office.Published(nil, tooLong))
	fails(t, "the longest desk", api.OK)(office.Published(four(), longName))
	fails(t, "the events before the desk", api.ErrOrder)(office.Published(four()[1:], ""))
	fails(t, "an event by itself before the desk", api.ErrShape)(office.Published([]api.Event{{Number: 1, Kind: "open"}}, ""))
}

// P10.4: events as in the model.
func TestEventsLikeModel(t *testing.T) {
	d := draw(4)
	kinds, errors := map[string]bool{}, map[api.Errno]bool{}
	for range 1500 {
		l := d.events(25)
		b, place, e := office.Replay(l)
		want(t, "the book", b, modelBook(l))
		want(t, "the place", place, 0)
		want(t, "the error", e, api.OK)
		gives(t, "the archive", sure(modelPublished(l, "hall")))(office.Published(l, "hall"))
		for range 20 {
			next := d.event(len(l) + 1)
			e := office.Accepts(l, next)
			want(t, "the error of an event", e, modelAccepts(l, next))
			kinds[next.Kind+strconv.FormatBool(e == api.OK)], errors[e] = true, true
		}
	}
	want(t, "how many kinds were accepted, and were not", len(kinds), 12)
	want(t, "how many different errors there were", len(errors), 9)
}
