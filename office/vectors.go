package office

import (
	"iter"

	"crux/api"
	"crux/check"
)

// Vector returns up to which number all entries of each desk are there.
func Vector(a Archive) ([]Mark, api.Errno) {
	if e := CheckArchive(a); e != api.OK {
		return nil, e
	}
	var vector []Mark
	for desk, l := range a.desks() {
		number := 0
		for number < len(l) && l[number].Number == number+1 {
			number++
		}
		vector = append(vector, Mark{Desk: desk, Number: number})
	}
	return vector, api.OK
}

// Gaps returns the first missing entries.
func Gaps(a Archive) ([]Mark, api.Errno) {
	if e := CheckArchive(a); e != api.OK {
		return nil, e
	}
	var gaps []Mark
search:
	for desk, l := range a.desks() {
		for i, x := range l {
			if x.Number != i+1 {
				gaps = append(gaps, Mark{Desk: desk, Number: i + 1})
				continue search
			}
		}
	}
	return gaps, api.OK
}

// Lacking returns the entries that someone with a vector lacks.
func Lacking(a Archive, v []Mark) ([]Entry, api.Errno) {
	if e := check.First(CheckArchive(a), checkVector(v)); e != api.OK {
		return nil, e
	}
	known := map[string]int{}
	for _, m := range v {
		known[m.Desk] = m.Number
	}
	var lacking []Entry
	for _, x := range a.Entries {
		if x.Number > known[x.Desk] {
			lacking = append(lacking, x.copy())
		}
	}
	return lacking, api.OK
}

// checkVector returns the first error of a vector.
func checkVector(v []Mark) api.Errno {
	if len(v) > api.MaxEvents {
		return api.ErrMany
	}
	return check.Each(v, func(i int, m Mark) api.Errno {
		return check.First(
			checkName(m.Desk),
			check.Range(m.Number, 0, api.MaxEvents),
			check.If(i > 0 && v[i-1].Desk >= m.Desk, api.ErrOrder),
		)
	})
}

// desks goes through the desks of an archive, with the entries of each one.
func (a Archive) desks() iter.Seq2[string, []Entry] {
	return func(yield func(string, []Entry) bool) {
		rest := a.Entries
		for len(rest) > 0 {
			n := 1
			for n < len(rest) && rest[n].Desk == rest[0].Desk {
				n++
			}
			if !yield(rest[0].Desk, rest[:n]) {
				return
			}
			rest = rest[n:]
		}
	}
}
