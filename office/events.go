package office

import (
	"slices"
	"strings"

	"crux/api"
	"crux/check"
)

// history is the events that were accepted, and the books after those that count, one after another. Books share sheets, which do not change.
type history struct {
	events []api.Event
	books  []Book
}

// CheckEvent returns the first error of an event by itself.
func CheckEvent(e api.Event) api.Errno {
	k, isKind := kinds()[e.Kind]
	return check.First(
		check.Range(e.Number, 1, api.MaxEvents),
		check.If(!isKind, api.ErrKind),
		check.If(len(e.Names) != k.names || len(e.Values) != k.values, api.ErrShape),
		check.Each(e.Names, func(_ int, name string) api.Errno { return checkName(name) }),
		check.Each(e.Values, func(_, value int) api.Errno { return check.Range(value, 0, api.MaxNumber) }),
		check.If(!k.hasText && e.Text != "" || strings.ContainsAny(e.Text, lineFeed+bar), api.ErrForm),
		check.If(len(e.Text) > api.MaxText, api.ErrLong),
	)
}

// Replay returns the book after some events.
func Replay(l []api.Event) (Book, int, api.Errno) {
	h, place, e := replay(l)
	return h.book(), place, e
}

// Accepts returns the error with which an event is not accepted after others.
func Accepts(l []api.Event, e api.Event) api.Errno {
	h, _, err := replay(l)
	err = check.First(err, CheckEvent(e), check.If(len(l) >= api.MaxEvents, api.ErrMany))
	if err != api.OK {
		return err
	}
	return h.accept(e)
}

// Published returns the archive of events at a desk. It never has too many entries, as no event changes more than one sheet.
func Published(l []api.Event, desk string) (Archive, api.Errno) {
	_, _, err := replay(l)
	if err = check.First(err, checkName(desk)); err != api.OK {
		return Archive{}, err
	}
	var h history
	var a Archive
	for _, e := range l {
		before := h.book()
		h.accept(e)
		for _, s := range h.book().news(before) {
			a.Entries = append(a.Entries, a.next(desk, s.copy()))
		}
	}
	return a, api.OK
}

// replay returns the history of events, or the place of the first one with an error, and this error.
func replay(l []api.Event) (history, int, api.Errno) {
	if len(l) > api.MaxEvents {
		return history{}, 0, api.ErrMany
	}
	var h history
	i, err := check.Find(l, func(_ int, e api.Event) api.Errno {
		if err := CheckEvent(e); err != api.OK {
			return err
		}
		return h.accept(e)
	})
	if err != api.OK {
		return history{}, i + 1, err
	}
	return h, 0, api.OK
}

// accept lets an event without an error of its own happen, or returns the error with which it is not accepted.
func (h *history) accept(e api.Event) api.Errno {
	if e.Number != len(h.events)+1 {
		return api.ErrOrder
	}
	err := kinds()[e.Kind].act(h, e)
	if err == api.OK {
		h.events = append(h.events, e)
	}
	return err
}

// book returns the book after all events.
func (h *history) book() Book {
	if len(h.books) == 0 {
		return Book{}
	}
	return h.books[len(h.books)-1]
}

// news returns the sheets of a book that were not there before, or were not the same.
func (b Book) news(before Book) []Sheet {
	return slices.DeleteFunc(slices.Clone(b.Sheets), func(s Sheet) bool {
		i := before.find(s.Round)
		return i >= 0 && s.isSame(before.Sheets[i])
	})
}

// find returns the place of the sheet of a round, or -1.
func (b Book) find(round string) int {
	return slices.IndexFunc(b.Sheets, func(s Sheet) bool { return s.Round == round })
}
