package office_test

import (
	"slices"
	"strconv"
	"strings"
	"testing"

	"crux/api"
	"crux/office"
)

// dialogue examines what lines are answered with.
func dialogue(t *testing.T, s *office.Session, l [][2]string) {
	t.Helper()
	for _, row := range l {
		gives(t, row[0], row[1])(s.Do(row[0]))
	}
}

// P10.6: the events of the examples, and all kinds and questions.
func TestDialogue(t *testing.T) {
	s := office.New()
	dialogue(t, s, [][2]string{
		{"rounds", "none"},
		{"open final 2", "done 1"},
		{"rounds", "final:0"},
		{"sheet final", "open"},
		{"ranks final", "none"},
		{"post final ann 34,1", "done 2"},
		{"post final ben 34,0", "done 3"},
		{"post final cat dns", "done 4"},
		{"sheet final", "open ann=34,1 ben=34,0 cat=dns"},
		{"ranks final", "1.ann 2.ben 3.cat"},
		{"rounds", "final:3"},
		{"post final ben 35,0", "done 5"},
		{"ranks final", "1.ben 2.ann 3.cat"},
		{"sheet final", "open ann=34,1 ben=35,0 cat=dns"},
		{"close final", "done 6"},
		{"sheet final", "closed ann=34,1 ben=35,0 cat=dns"},
		{"open B 1", "done 7"},
		{"post B cat -7", "done 8"},
		{"post B ann 0", "done 9"},
		{"rounds", "final:3 B:2"},
		{"sheet B", "open cat=-7 ann=0"},
		{"ranks B", "1.ann 2.cat"},
		{"post B cat dsq", "done 10"},
		{"post B ben dnf", "done 11"},
		{"post B dan dnf", "done 12"},
		{"post B eva 0", "done 13"},
		{"sheet B", "open cat=dsq ann=0 ben=dnf dan=dnf eva=0"},
		{"ranks B", "1.ann 1.eva 3.ben 3.dan 5.cat"},
		{"drop B ann", "done 14"},
		{"ranks B", "1.eva 2.ben 2.dan 4.cat"},
		{"reopen final", "done 15"},
		{"undo", "done 16"},
		{"undo", "done 17"},
		{"ranks B", "1.ann 1.eva 3.ben 3.dan 5.cat"},
		{"sheet final", "closed ann=34,1 ben=35,0 cat=dns"},
	})
	want(t, "the events", s.Events(), []api.Event{
		opened(1, "final", 2), posted(2, "final", "ann", "34,1"), posted(3, "final", "ben", "34,0"), posted(4, "final", "cat", "dns"),
		posted(5, "final", "ben", "35,0"), closed(6, "final"), opened(7, "B", 1), posted(8, "B", "cat", "-7"), posted(9, "B", "ann", "0"),
		posted(10, "B", "cat", "dsq"), posted(11, "B", "ben", "dnf"), posted(12, "B", "dan", "dnf"), posted(13, "B", "eva", "0"),
		dropped(14, "B", "ann"), reopened(15, "final"), undone(16), undone(17),
	})
	want(t, "the log", s.Log(), log(s.Events()))
}

// P10.6: many equal results stay in the order of the sheet.
func TestManyEqualRanks(t *testing.T) {
	s := doing(t, "open final 1")
	var ranks [3][]string
	for i, name := range names(160) {
		gives(t, "an event", "done "+strconv.Itoa(i+2))(s.Do("post final " + name + " " + strconv.Itoa(i%3)))
		ranks[2-i%3] = append(ranks[2-i%3], strconv.Itoa([]int{107, 54, 1}[i%3])+"."+name)
	}
	gives(t, "the ranks", strings.Join(slices.Concat(ranks[:]...), " "))(s.Do("ranks final"))
}

// P10.6: example 5.
func TestExampleOfLines(t *testing.T) {
	s := doing(t, lines...)
	fails(t, "a result with too few values", api.ErrShape)(s.Do("post final ann 35"))
	gives(t, "the close", "done 5")(s.Do("close final"))
	fails(t, "a result behind the close", api.ErrOver)(s.Do("post final ann 35"))
}

// P10.6: the errors of lines. None of them changes anything.
func TestErrorsOfLines(t *testing.T) {
	longText := strings.Repeat("1", 4097)
	s := doing(t, append(lines, "open over 1", "post over ann 1", "close over")...)
	before, text := s.Events(), s.Log()
	for _, row := range []struct {
		line string
		e    api.Errno
	}{
		{"", api.ErrSyntax},
		{" ", api.ErrKind}, {" undo", api.ErrKind}, {"Undo", api.ErrKind}, {"und", api.ErrKind}, {"undo\n", api.ErrKind}, {"undo\t1", api.ErrKind}, {"quit", api.ErrKind}, {"1 undo", api.ErrKind},
		{"round", api.ErrKind}, {"sheets final", api.ErrKind}, {"\xff", api.ErrKind}, {"ranks\xa0final", api.ErrKind},
		{"undo ", api.ErrSyntax}, {"undo 1", api.ErrSyntax}, {"undo  ", api.ErrSyntax},
		{"open", api.ErrSyntax}, {"open semi", api.ErrSyntax}, {"open semi ", api.ErrSyntax}, {"open  1", api.ErrSyntax}, {"open semi 1 ", api.ErrSyntax}, {"open semi 1 2", api.ErrSyntax},
		{"open semi  1", api.ErrSyntax}, {"open semi x", api.ErrSyntax}, {"open semi 01", api.ErrSyntax}, {"open semi 00", api.ErrSyntax}, {"open semi -1", api.ErrSyntax}, {"open semi -0", api.ErrSyntax}, {"open semi +1", api.ErrSyntax},
		{"open semi 1000000000", api.ErrSyntax}, {"open semi 0000000001", api.ErrSyntax}, {"open semi 1,2", api.ErrSyntax}, {"open 1 x", api.ErrSyntax},
		{"open semi 999999999", api.ErrRange}, {"open semi 0", api.ErrRange}, {"open semi 17", api.ErrRange},
		{"open 1a 1", api.ErrName}, {"open 1a 0", api.ErrName}, {"open " + tooLong + " 1", api.ErrName}, {"open a\nb 1", api.ErrName}, {"open a|b 1", api.ErrName}, {"open \xff 1", api.ErrName},
		{"open final 1", api.ErrTwice}, {"open final 0", api.ErrTwice},
		{"post", api.ErrSyntax}, {"post final", api.ErrSyntax}, {"post final ann", api.ErrSyntax}, {"post  ann 1,2", api.ErrSyntax}, {"post final  1,2", api.ErrSyntax}, {"post   ", api.ErrSyntax},
		{"post final ann ", api.ErrSyntax}, {"post final ann  1,2", api.ErrSyntax}, {"post final ann 1,2 ", api.ErrSyntax}, {"post final ann 1, 2", api.ErrSyntax},
		{"post semi ann ", api.ErrUnknown}, {"post over ann ", api.ErrOver}, {"post over ann x y z", api.ErrOver}, {"post semi ann 1 2 3", api.ErrUnknown},
		{"post 1 ann 1", api.ErrName}, {"post final 1 1", api.ErrName}, {"post final 1 |", api.ErrName},
		{"post final ann |", api.ErrForm}, {"post final ann 1\n", api.ErrForm}, {"post semi ann 1|2", api.ErrForm}, {"post semi ann " + longText + "|", api.ErrForm},
		{"post semi ann " + longText, api.ErrLong}, {"post semi ann " + longText[1:], api.ErrUnknown}, {"post final ann " + longText[1:], api.ErrSyntax},
		{"post final ann 1", api.ErrShape}, {"post final ann 34,1", api.ErrTwice}, {"post final ann dns,1", api.ErrSyntax},
		{"drop final", api.ErrSyntax}, {"drop final ann x", api.ErrSyntax}, {"drop final ann ", api.ErrSyntax}, {"drop final ", api.ErrSyntax}, {"drop  ann", api.ErrSyntax},
		{"drop final dan", api.ErrUnknown}, {"drop semi ann", api.ErrUnknown}, {"drop over ann", api.ErrOver}, {"drop a-b ann", api.ErrName},
		{"close", api.ErrSyntax}, {"close ", api.ErrSyntax}, {"close final ", api.ErrSyntax}, {"close final x", api.ErrSyntax}, {"close  final", api.ErrSyntax},
		{"close over", api.ErrTwice}, {"close semi", api.ErrUnknown}, {"close 7", api.ErrName},
		{"reopen", api.ErrSyntax}, {"reopen ", api.ErrSyntax}, {"reopen over x", api.ErrSyntax}, {"reopen final", api.ErrState}, {"reopen semi", api.ErrUnknown}, {"reopen " + tooLong, api.ErrName},
		{"sheet", api.ErrSyntax}, {"sheet ", api.ErrSyntax}, {"sheet  final", api.ErrSyntax}, {"sheet final ", api.ErrSyntax}, {"sheet final x", api.ErrSyntax},
		{"sheet semi", api.ErrUnknown}, {"sheet 1", api.ErrUnknown}, {"sheet Final", api.ErrUnknown}, {"sheet final\n", api.ErrUnknown},
		{"ranks", api.ErrSyntax}, {"ranks ", api.ErrSyntax}, {"ranks final over", api.ErrSyntax}, {"ranks semi", api.ErrUnknown}, {"ranks |", api.ErrUnknown},
		{"rounds ", api.ErrSyntax}, {"rounds final", api.ErrSyntax}, {"rounds  ", api.ErrSyntax},
		{strings.Repeat("x", 8192), api.ErrKind}, {strings.Repeat("x", 8193), api.ErrLong}, {strings.Repeat(" ", 8193), api.ErrLong},
		{"sheet " + strings.Repeat("x", 8186), api.ErrUnknown}, {"sheet " + strings.Repeat("x", 8187), api.ErrLong}, {"undo" + strings.Repeat(" ", 8188), api.ErrSyntax},
	} {
		fails(t, "the line "+row.line[:min(40, len(row.line))], row.e)(s.Do(row.line))
		_, _, e := modelDo(before, row.line)
		want(t, "the model: "+row.line[:min(40, len(row.line))], e, row.e)
	}
	want(t, "the events", s.Events(), before)
	want(t, "the log", s.Log(), text)
	gives(t, "the next event", "done 8")(s.Do("undo"))
}

// P10.6: at most so many events; the form of a line comes first, its event later. Questions are answered.
func TestFullSession(t *testing.T) {
	s := office.New()
	for i, e := range turns(1000) {
		gives(t, "an event", "done "+strconv.Itoa(i+1))(s.Do(lineOf(e)))
	}
	for _, row := range []struct {
		line string
		e    api.Errno
	}{
		{"undo", api.ErrMany}, {"undo x", api.ErrSyntax}, {"open 1 1", api.ErrMany}, {"open semi 0", api.ErrMany}, {"close semi", api.ErrMany}, {"post final ann ", api.ErrMany}, {"open semi x", api.ErrSyntax}, {"other", api.ErrKind},
	} {
		fails(t, row.line, row.e)(s.Do(row.line))
	}
	dialogue(t, s, [][2]string{{"rounds", "final:1"}, {"sheet final", "open ann=1000"}, {"ranks final", "1.ann"}})
	want(t, "the events", s.Events(), turns(1000))
	want(t, "the log", s.Log(), log(turns(1000)))
	again := sure(office.Load(s.Log()))
	want(t, "the events that are loaded", again.Events(), turns(1000))
	fails(t, "an event behind a log", api.ErrMany)(again.Do("undo"))
}

// P10.6: sessions without events, and none at all.
func TestEmptySessions(t *testing.T) {
	for what, s := range map[string]*office.Session{"New": office.New(), "Load": sure(office.Load("")), "a torn record": sure(office.Load("1 undo")), "a session as it is": {}} {
		want(t, "the events: "+what, s.Events(), []api.Event(nil))
		want(t, "the log: "+what, s.Log(), "")
		fails(t, "undo: "+what, api.ErrEmpty)(s.Do("undo"))
		dialogue(t, s, [][2]string{{"rounds", "none"}, {"open r 1", "done 1"}, {"undo", "done 2"}, {"rounds", "none"}})
	}
	var none *office.Session
	for _, line := range []string{"", "undo", "open r 1", "rounds", "other", strings.Repeat("x", 8193)} {
		fails(t, "no session", api.ErrState)(none.Do(line))
	}
	want(t, "the events of no session", none.Events(), []api.Event(nil))
	want(t, "the log of no session", none.Log(), "")
}

// P10.6: the error of a log before those of its events; a torn end is left out.
func TestLoad(t *testing.T) {
	text := log(four())
	for _, torn := range []string{"", "5", "5 undo", strings.TrimSuffix(record("5 undo"), "\n"), "x"} {
		s := sure(office.Load(text + torn))
		want(t, "the events", s.Events(), four())
		want(t, "the log", s.Log(), text)
		dialogue(t, s, [][2]string{{"sheet final", "open ann=34,1 ben=34,0 cat=dns"}, {"undo", "done 5"}, {"sheet final", "open ann=34,1 ben=34,0"}, {"rounds", "final:2"}})
		want(t, "the log behind an event", s.Log(), text+record("5 undo"))
	}
	for _, row := range []struct {
		what, text string
		e          api.Errno
	}{
		{"an event that is not accepted", text + record("5 close semi"), api.ErrUnknown},
		{"an event that is not accepted, and a torn end", text + record("5 close semi") + "6", api.ErrUnknown},
		{"the log before its events", record("1 undo") + "x\n", api.ErrSyntax},
		{"the sum", record("1 undo") + "1|00000000\n", api.ErrCheck},
		{"the order", record("2 undo"), api.ErrOrder},
		{"nothing to undo", record("1 undo"), api.ErrEmpty},
		{"a text that is no result", text + record("5 post final ann "), api.ErrSyntax},
		{"a line without anything", text + "\n", api.ErrSyntax},
	} {
		s, e := office.Load(row.text)
		want(t, "the error: "+row.what, e, row.e)
		want(t, "the session: "+row.what, s == nil, true)
	}
}

// P10.6: sessions do not hang together, and what they return is not theirs.
func TestSessionsApart(t *testing.T) {
	one, other := doing(t, lines...), sure(office.Load(log(four())))
	gives(t, "an event of one", "done 5")(one.Do("close final"))
	gives(t, "an event of the other", "done 5")(other.Do("undo"))
	gives(t, "the sheet of one", "closed ann=34,1 ben=34,0 cat=dns")(one.Do("sheet final"))
	gives(t, "the sheet of the other", "open ann=34,1 ben=34,0")(other.Do("sheet final"))
	l := one.Events()
	l[0].Names[0], l[0].Values[0], l[1].Text = "x", 9, "dns"
	_ = append(l[1].Names[:1], "x")
	want(t, "the events", one.Events(), append(four(), closed(5, "final")))
	want(t, "the log", one.Log(), log(append(four(), closed(5, "final"))))
}

// line returns a line, or nearly one.
func (d drawing) line() string {
	switch d.Intn(8) {
	case 0:
		return d.oneOf("sheet ", "ranks ", "sheet ", "ranks ", "rounds ", "rounds") + d.oneOf("", d.round(), d.round(), d.round()+" ")
	case 1:
		return d.oneOf("rounds", "", "x", " ", "sheet final", "ranks final")
	case 2:
		_, line, _ := strings.Cut(d.body(), " ")
		return line
	}
	return lineOf(d.event(1))
}

// P10.6: sessions as in the model.
func TestSessionsLikeModel(t *testing.T) {
	d := draw(6)
	errors, kinds := map[api.Errno]bool{}, map[string]int{}
	for range 2000 {
		events := d.events(10)
		s := sure(office.Load(log(events)))
		for range d.Intn(40) {
			line := d.line()
			answer, e := s.Do(line)
			var wanted string
			var wantedError api.Errno
			events, wanted, wantedError = modelDo(events, line)
			want(t, "the answer to "+line, answer, wanted)
			want(t, "the error of "+line, e, wantedError)
			errors[e] = true
			if e == api.OK {
				kinds[strings.Split(line, " ")[0]]++
			}
		}
		want(t, "the events", s.Events(), events)
		want(t, "the log", s.Log(), log(events))
	}
	want(t, "how many different errors there were", len(errors), 12)
	for _, kind := range []string{"open", "post", "drop", "close", "reopen", "undo", "sheet", "ranks", "rounds"} {
		want(t, "whether lines were often of the kind "+kind, kinds[kind] > 100, true)
	}
}

// P10.6: a session that is loaded again at any time goes on as if nothing had happened.
func TestLoadedSessions(t *testing.T) {
	d := draw(7)
	for range 300 {
		one, other := office.New(), office.New()
		for range 30 {
			line := d.line()
			answer, e := one.Do(line)
			again, againError := other.Do(line)
			want(t, "the answer", again, answer)
			want(t, "the error", againError, e)
			if d.Intn(3) == 0 {
				other = sure(office.Load(other.Log() + d.oneOf("", "x", record("1 undo")[:5])))
			}
		}
		want(t, "the events", slices.Clone(other.Events()), one.Events())
	}
}
