package office

import (
	"cmp"
	"slices"

	"crux/api"
	"crux/check"
)

// CheckEntry returns the first error of an entry, or OK.
func CheckEntry(e Entry) api.Errno {
	return check.First(
		checkName(e.Desk),
		check.Range(e.Number, 1, api.MaxEvents),
		check.Range(e.Clock, 1, MaxClock),
		CheckSheet(e.Sheet),
	)
}

// CheckArchive returns the first error of an archive, or OK.
func CheckArchive(a Archive) api.Errno {
	if len(a.Entries) > api.MaxEvents {
		return api.ErrMany
	}
	return check.Each(a.Entries, func(i int, e Entry) api.Errno {
		return check.First(CheckEntry(e), check.If(i > 0 && !mayFollow(a.Entries[i-1], e), api.ErrOrder))
	})
}

// mayFollow reports whether an entry may stand behind another one in an archive.
func mayFollow(before, e Entry) bool {
	return byMark(before, e) < 0 && (before.Desk != e.Desk || before.Clock < e.Clock)
}

// Post returns an archive with a sheet that is posted.
func Post(a Archive, desk string, s Sheet) (Archive, api.Errno) {
	e := check.First(
		CheckArchive(a),
		checkName(desk),
		CheckSheet(s),
		check.If(len(a.Entries) >= api.MaxEvents, api.ErrMany),
	)
	if e != api.OK {
		return Archive{}, e
	}
	posted := a.next(desk, s)
	if e := CheckEntry(posted); e != api.OK {
		return Archive{}, e
	}
	return a.with(posted), api.OK
}

// next returns the entry with which a sheet is posted at a desk.
func (a Archive) next(desk string, s Sheet) Entry {
	next := Entry{Desk: desk, Number: 1, Clock: 1, Sheet: s}
	for _, x := range a.Entries {
		next.Clock = max(next.Clock, x.Clock+1)
		if x.Desk == desk {
			next.Number = max(next.Number, x.Number+1)
		}
	}
	return next
}

// Merge returns the archive with the entries of both.
func Merge(a, b Archive) (Archive, api.Errno) {
	if e := check.First(CheckArchive(a), CheckArchive(b)); e != api.OK {
		return Archive{}, e
	}
	if contradict(a.Entries, b.Entries) {
		return Archive{}, api.ErrConflict
	}
	both := a.with(b.Entries...)
	switch CheckArchive(both) {
	case api.OK:
		return both, api.OK
	case api.ErrMany:
		return Archive{}, api.ErrMany
	}
	return Archive{}, api.ErrConflict
}

// with returns an archive with further entries, which are in order. What is already there is not added.
func (a Archive) with(further ...Entry) Archive {
	return Archive{Entries: copied(merged(a.Entries, further, byMark), Entry.copy)}
}

// merged returns the elements of two ascending lists in ascending order. Of two that are equal in this order, one is left out.
func merged[T any](a, b []T, order func(x, y T) int) []T {
	var all []T
	for len(a) > 0 && len(b) > 0 {
		c := order(a[0], b[0])
		if c <= 0 {
			all, a = append(all, a[0]), a[1:]
		} else {
			all = append(all, b[0])
		}
		if c >= 0 {
			b = b[1:]
		}
	}
	return append(append(all, a...), b...)
}

// contradict reports whether two lists have different entries with the same desk and number.
func contradict(a, b []Entry) bool {
	entries := map[Mark]Entry{}
	for _, x := range a {
		entries[x.mark()] = x
	}
	return slices.ContainsFunc(b, func(y Entry) bool {
		x, isThere := entries[y.mark()]
		return isThere && !(x.Clock == y.Clock && x.Sheet.isSame(y.Sheet))
	})
}

// Shown returns the sheet that is shown for a round.
func Shown(a Archive, round string) (Sheet, api.Errno) {
	l, e := entriesOf(a, round)
	if e != api.OK {
		return Sheet{}, e
	}
	return l[len(l)-1].Sheet.copy(), api.OK
}

// Rounds returns the rounds of all entries.
func Rounds(a Archive) ([]string, api.Errno) {
	if e := CheckArchive(a); e != api.OK {
		return nil, e
	}
	var rounds []string
	for _, x := range a.Entries {
		rounds = append(rounds, x.Sheet.Round)
	}
	slices.Sort(rounds)
	return slices.Compact(rounds), api.OK
}

// History returns the entries of a round, the oldest one first.
func History(a Archive, round string) ([]Mark, api.Errno) {
	l, e := entriesOf(a, round)
	if e != api.OK {
		return nil, e
	}
	var marks []Mark
	for _, x := range l {
		marks = append(marks, x.mark())
	}
	return marks, api.OK
}

// entriesOf returns the entries of a round, the oldest one first, or ErrUnknown if there are none.
func entriesOf(a Archive, round string) ([]Entry, api.Errno) {
	if e := check.First(CheckArchive(a), checkName(round)); e != api.OK {
		return nil, e
	}
	var l []Entry
	for _, x := range a.Entries {
		if x.Sheet.Round == round {
			l = append(l, x)
		}
	}
	slices.SortFunc(l, func(x, y Entry) int {
		return cmp.Or(cmp.Compare(x.Clock, y.Clock), cmp.Compare(x.Desk, y.Desk))
	})
	return l, check.If(len(l) == 0, api.ErrUnknown)
}

func (e Entry) mark() Mark {
	return Mark{Desk: e.Desk, Number: e.Number}
}

// byMark puts entries into the order of an archive.
func byMark(a, b Entry) int {
	return cmp.Or(cmp.Compare(a.Desk, b.Desk), cmp.Compare(a.Number, b.Number))
}

func (e Entry) copy() Entry {
	e.Sheet = e.Sheet.copy()
	return e
}
