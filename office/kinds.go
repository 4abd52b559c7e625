package office

import (
	"slices"

	"crux/api"
	"crux/check"
)

// act lets an event happen, or returns the error with which it is not accepted.
type act func(h *history, e api.Event) api.Errno

// kind is a kind of events: how many names and values it has, whether it has a text, and what it does.
type kind struct {
	names   int
	values  int
	hasText bool
	act     act
}

// kinds returns the kinds of events by their names.
func kinds() map[string]kind {
	return map[string]kind{
		"open":   {names: 1, values: 1, act: counting(openSheet)},
		"post":   {names: 2, hasText: true, act: changing(postResult)},
		"drop":   {names: 2, act: changing(dropResult)},
		"close":  {names: 1, act: changing(closeSheet)},
		"reopen": {names: 1, act: changing(reopenSheet)},
		"undo":   {act: undo},
	}
}

// counting returns what an event does that counts, and leads from one book to another.
func counting(change func(b Book, e api.Event) (Book, api.Errno)) act {
	return func(h *history, e api.Event) api.Errno {
		b, err := change(h.book(), e)
		if err == api.OK {
			h.books = append(h.books, b)
		}
		return err
	}
}

// changing returns what an event does that counts, and changes the sheet of its round.
func changing(change func(s Sheet, e api.Event) (Sheet, api.Errno)) act {
	return counting(func(b Book, e api.Event) (Book, api.Errno) {
		i := b.find(e.Names[0])
		if i < 0 {
			return Book{}, api.ErrUnknown
		}
		s, err := change(b.Sheets[i], e)
		if err != api.OK {
			return Book{}, err
		}
		b.Sheets = slices.Clone(b.Sheets)
		b.Sheets[i] = s
		return b, api.OK
	})
}

func undo(h *history, _ api.Event) api.Errno {
	if len(h.books) == 0 {
		return api.ErrEmpty
	}
	h.books = h.books[:len(h.books)-1]
	return api.OK
}

func openSheet(b Book, e api.Event) (Book, api.Errno) {
	s := Sheet{Round: e.Names[0], Values: e.Values[0], State: open}
	err := check.First(
		check.If(b.find(s.Round) >= 0, api.ErrTwice),
		check.Range(s.Values, 1, MaxValues),
		check.If(len(b.Sheets) >= MaxSheets, api.ErrMany),
	)
	if err != api.OK {
		return Book{}, err
	}
	return Book{Sheets: append(slices.Clone(b.Sheets), s)}, api.OK
}

func postResult(s Sheet, e api.Event) (Sheet, api.Errno) {
	r, isResult := readResult(e.Names[1], e.Text)
	i := s.find(e.Names[1])
	err := check.First(
		check.If(s.State == closed, api.ErrOver),
		check.If(!isResult, api.ErrSyntax),
		check.If(!s.fits(r), api.ErrShape),
		check.If(i >= 0 && isSameResult(s.Results[i], r), api.ErrTwice),
		check.If(i < 0 && len(s.Results) >= api.MaxClimbers, api.ErrMany),
	)
	if err != api.OK {
		return Sheet{}, err
	}
	s.Results = slices.Clone(s.Results)
	if i < 0 {
		s.Results = append(s.Results, r)
	} else {
		s.Results[i] = r
	}
	return s, api.OK
}

func dropResult(s Sheet, e api.Event) (Sheet, api.Errno) {
	i := s.find(e.Names[1])
	err := check.First(check.If(s.State == closed, api.ErrOver), check.If(i < 0, api.ErrUnknown))
	if err != api.OK {
		return Sheet{}, err
	}
	s.Results = slices.Delete(slices.Clone(s.Results), i, i+1)
	return s, api.OK
}

func closeSheet(s Sheet, _ api.Event) (Sheet, api.Errno) {
	err := check.First(check.If(s.State == closed, api.ErrTwice), check.If(len(s.Results) == 0, api.ErrEmpty))
	if err != api.OK {
		return Sheet{}, err
	}
	s.State = closed
	return s, api.OK
}

func reopenSheet(s Sheet, _ api.Event) (Sheet, api.Errno) {
	if s.State == open {
		return Sheet{}, api.ErrState
	}
	s.State = open
	return s, api.OK
}
