package office_test

import (
	"slices"
	"strconv"
	"strings"
	"testing"

	"crux/api"
	"crux/office"
)

// P10.7: ranks are a total preorder: they do not hang on the order of the results, equal ranks take as many places as climbers have them, and a better result never has a worse rank.
func TestRanksAreTotal(t *testing.T) {
	d := draw(8)
	for range 3000 {
		s := d.sheet()
		ranks := sure(office.Ranks(s))
		count := map[int]int{}
		for _, rank := range ranks {
			count[rank]++
		}
		next := 1
		for next <= len(ranks) {
			want(t, "whether somebody has the next rank", count[next] > 0, true)
			next += max(1, count[next])
		}
		want(t, "the rank behind all", next, len(ranks)+1)
		for i, a := range s.Results {
			for j, b := range s.Results {
				want(t, "whether one is better", ranks[i] < ranks[j], modelBetter(a, b))
			}
		}
		order := d.Perm(len(s.Results))
		other := s
		other.Results = nil
		for _, i := range order {
			other.Results = append(other.Results, s.Results[i])
		}
		for place, rank := range sure(office.Ranks(other)) {
			want(t, "the rank in another order", rank, ranks[order[place]])
		}
	}
}

// P10.7: Merge is commutative and idempotent, and associative wherever it has no error.
func TestMergeInAnyOrder(t *testing.T) {
	d := draw(9)
	three := 0
	for range 4000 {
		whole := d.whole()
		a, b, c := d.part(whole), d.part(whole), d.part(whole)
		if d.Intn(4) == 0 {
			c = d.archive()
		}
		gives(t, "an archive and itself", a)(office.Merge(a, a))
		ab, e := office.Merge(a, b)
		want(t, "the error of parts", e, api.OK)
		gives(t, "the other way", ab)(office.Merge(b, a))
		gives(t, "what is merged already", ab)(office.Merge(ab, b))
		bc, e := office.Merge(b, c)
		cb, again := office.Merge(c, b)
		want(t, "the other way", cb, bc)
		want(t, "the error the other way", again, e)
		if e != api.OK {
			continue
		}
		left, e := office.Merge(ab, c)
		right, again := office.Merge(a, bc)
		want(t, "the error of three", again, e)
		want(t, "three archives", right, left)
		if e == api.OK {
			three++
			want(t, "the error of the archive", office.CheckArchive(left), api.OK)
		}
	}
	want(t, "whether there were three", three > 1000, true)
}

// P10.7: archives that have all entries show the same sheets, in whatever order they have received them, repeatedly and in parts.
func TestReceivedInAnyOrder(t *testing.T) {
	d := draw(10)
	for range 1500 {
		whole := d.whole()
		var a office.Archive
		for len(a.Entries) < len(whole.Entries) {
			part := d.part(whole)
			if d.Intn(2) == 0 {
				part = archive(whole.Entries[d.Intn(len(whole.Entries))])
			}
			a = sure(office.Merge(a, part))
		}
		want(t, "the archive", a, whole)
		for _, round := range sure(office.Rounds(whole)) {
			gives(t, "what is shown", sure(office.Shown(whole, round)))(office.Shown(a, round))
		}
		gives(t, "no gaps", []office.Mark(nil))(office.Gaps(a))
	}
}

// P10.7: who merges what is lacking by the own vector has all that the other one has.
func TestLackingIsMerged(t *testing.T) {
	d := draw(11)
	fewer := 0
	for range 4000 {
		whole := d.whole()
		mine, theirs := d.part(whole), d.part(whole)
		lacking := sure(office.Lacking(theirs, sure(office.Vector(mine))))
		all := sure(office.Merge(mine, archive(lacking...)))
		want(t, "both", all, sure(office.Merge(mine, theirs)))
		want(t, "what is lacking then of what was told", sure(office.Merge(all, theirs)), all)
		if len(lacking) < len(theirs.Entries) {
			fewer++
		}
		// Who has no gaps lacks nothing of what is its own.
		gives(t, "what the whole lacks", []office.Entry(nil))(office.Lacking(theirs, sure(office.Vector(whole))))
	}
	want(t, "whether there was often less to tell", fewer > 1000, true)
}

// P10.7: what is posted is shown at once.
func TestPostedIsShown(t *testing.T) {
	d := draw(12)
	for range 4000 {
		a, s := d.archive(), d.sheet()
		desk := d.oneOf("a", "b", "gym", "hall", "z")
		b := sure(office.Post(a, desk, s))
		want(t, "the error of the archive", office.CheckArchive(b), api.OK)
		gives(t, "what is shown", s)(office.Shown(b, s.Round))
		history := sure(office.History(b, s.Round))
		want(t, "the desk of the newest entry", history[len(history)-1].Desk, desk)
		want(t, "the number of entries", len(b.Entries), len(a.Entries)+1)
		gives(t, "both", b)(office.Merge(a, b))
		for _, round := range sure(office.Rounds(a)) {
			if round != s.Round {
				gives(t, "what is shown of another round", sure(office.Shown(a, round)))(office.Shown(b, round))
			}
		}
	}
}

// P10.7: whoever has all entries shows the book.
func TestBookIsShown(t *testing.T) {
	d := draw(13)
	sheets := 0
	for range 1500 {
		l := d.events(30)
		a := sure(office.Published(l, "hall"))
		var received office.Archive
		for _, i := range d.Perm(len(a.Entries)) {
			received = sure(office.Merge(received, archive(a.Entries[i])))
		}
		want(t, "what was received", received, a)
		for _, s := range book(t, l...).Sheets {
			sheets++
			gives(t, "what is shown", s)(office.Shown(received, s.Round))
		}
		for i := range l {
			earlier := sure(office.Published(l[:i], "hall"))
			want(t, "the archive of the first events", archive(a.Entries[:len(earlier.Entries)]...), earlier)
		}
	}
	want(t, "whether there were sheets", sheets > 1000, true)
}

// P10.7: a log of which a byte is changed to another one, neither of which is a line feed, is not recovered as a whole.
func TestChangedBytes(t *testing.T) {
	d := draw(14)
	texts := []string{log(append(four(), closed(5, "final"), reopened(6, "final"), dropped(7, "final", "ann"), undone(8)))}
	for range 5 {
		texts = append(texts, log(d.events(6)))
	}
	texts = append(texts, log([]api.Event{posted(1, "r", "c", strings.Repeat("\xff", 200))}))
	for _, text := range texts {
		whole := strings.Count(text, "\n")
		for i := range len(text) {
			for b := range 256 {
				changed := []byte(text)
				changed[i] = byte(b)
				if b == '\n' || text[i] == '\n' || changed[i] == text[i] {
					continue
				}
				l, length, e := office.Recover(string(changed))
				if e == api.OK || len(l) >= whole {
					t.Fatalf("the byte %d of %q as %d: recovered", i, text, b)
				}
				if before := strings.Count(text[:i], "\n"); len(l) != before || length != strings.LastIndex(text[:i], "\n")+1 {
					t.Fatalf("the byte %d of %q as %d: %d events in %d bytes", i, text, b, len(l), length)
				}
			}
		}
	}
}

// P10.7: undoing everything leaves nothing.
func TestUndoEverything(t *testing.T) {
	d := draw(15)
	for range 1500 {
		l := d.events(20)
		counts := len(counting(l))
		for i := range counts {
			want(t, "an undo", office.Accepts(l, undone(len(l)+1)), api.OK)
			l = append(l, undone(len(l)+1))
			want(t, "the number of those that count", len(counting(l)), counts-i-1)
		}
		want(t, "the book", book(t, l...), office.Book{})
		want(t, "one more undo", office.Accepts(l, undone(len(l)+1)), api.ErrEmpty)
		gives(t, "the rounds", "none")(sure(office.Load(log(l))).Do("rounds"))
	}
}

// P10.7: an event and its undo leave the book as it was, whatever comes behind them.
func TestEventAndUndo(t *testing.T) {
	d := draw(16)
	pairs := 0
	for range 4000 {
		l := d.events(15)
		at := d.Intn(len(l) + 1)
		e := d.event(at + 1)
		if e.Kind == "undo" || office.Accepts(l[:at], e) != api.OK {
			continue
		}
		pairs++
		longer := append(slices.Clone(l[:at]), e, undone(at+2))
		for _, x := range l[at:] {
			x.Number += 2
			longer = append(longer, x)
		}
		want(t, "the book", book(t, longer...), book(t, l...))
	}
	want(t, "whether there were events", pairs > 300, true)
}

// P10.7: a log is the one of its events, in a session as outside of it.
func TestLogsOfSessions(t *testing.T) {
	d := draw(17)
	for range 500 {
		l := d.events(20)
		s := office.New()
		text := ""
		for i, e := range l {
			gives(t, "an event", "done "+strconv.Itoa(i+1))(s.Do(lineOf(e)))
			text = sure(office.Append(text, e))
			want(t, "the log", s.Log(), text)
		}
		want(t, "the events", s.Events(), l)
		again := sure(office.Load(text))
		want(t, "the events that are loaded", again.Events(), l)
		want(t, "the log that is loaded", again.Log(), text)
	}
}
