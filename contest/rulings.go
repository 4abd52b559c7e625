package contest

import (
	"slices"

	"crux/api"
	"crux/check"
)

// Apply returns a log with rulings. There are never too many entries, as no number of a ruling is above MaxList.
func Apply(r Round, l []Entry, rulings []Ruling) ([]Entry, api.Errno) {
	if e := check.First(CheckLog(r, l), checkRulings(r, rulings)); e != api.OK {
		return nil, e
	}
	return apply(l, rulings), api.OK
}

// Differences returns the numbers of the entries in which two logs differ.
func Differences(r Round, a, b []Entry) ([]int, api.Errno) {
	if e := check.First(CheckLog(r, a), CheckLog(r, b)); e != api.OK {
		return nil, e
	}
	return differences(a, b), api.OK
}

// Reconcile returns the log of two judges, with rulings where they differ. It does not matter which log the rulings are applied to, as they are about all differences.
func Reconcile(r Round, a, b []Entry, rulings []Ruling) ([]Entry, api.Errno) {
	if e := check.First(CheckLog(r, a), CheckLog(r, b), checkRulings(r, rulings)); e != api.OK {
		return nil, e
	}
	open := differences(a, b)
	for _, n := range open {
		if !slices.ContainsFunc(rulings, func(x Ruling) bool { return x.Number == n }) {
			return nil, api.ErrOpen
		}
	}
	return apply(a, about(rulings, open)), api.OK
}

// Judge returns the rulings of appeals, and what each climber pays.
func Judge(r Round, l []Entry, appeals []Appeal) ([]Ruling, []int, api.Errno) {
	if e := check.First(CheckLog(r, l), checkAppeals(r, l, appeals)); e != api.OK {
		return nil, nil, e
	}
	var rulings []Ruling
	fees := make([]int, len(r.Climbers))
	admitted := map[int]bool{}
	for _, x := range appeals {
		n := x.Ruling.Number
		if admitted[n] || !x.isInTime() || l[n-1].Climber != x.Climber {
			continue
		}
		admitted[n] = true
		if x.Upheld {
			rulings = append(rulings, x.Ruling)
		} else {
			fees[x.Climber] += Fee
		}
	}
	return rulings, fees, api.OK
}

func checkRulings(r Round, rulings []Ruling) api.Errno {
	if len(rulings) > api.MaxList {
		return api.ErrMany
	}
	known := kinds()
	return check.Each(rulings, func(_ int, x Ruling) api.Errno { return x.checkIn(r, known) })
}

// checkIn returns the first error of a ruling, if the round has none.
func (x Ruling) checkIn(r Round, known map[string]kind) api.Errno {
	e := check.Range(x.Number, 1, api.MaxList)
	if x.Void {
		return check.First(e, check.If(x.Entry != Entry{}, api.ErrForm))
	}
	return check.First(e, x.Entry.checkIn(r, known))
}

func checkAppeals(r Round, l []Entry, appeals []Appeal) api.Errno {
	if len(appeals) > api.MaxList {
		return api.ErrMany
	}
	known := kinds()
	return check.Each(appeals, func(_ int, x Appeal) api.Errno {
		return check.First(
			checkClimber(r, x.Climber),
			check.Range(x.After, 0, api.MaxList),
			x.Ruling.checkIn(r, known),
			check.If(x.Ruling.Number > len(l), api.ErrUnknown),
		)
	})
}

// apply returns the entries that stand in the places, of which there are as many as a ruling can name.
func apply(l []Entry, rulings []Ruling) []Entry {
	places := slices.Repeat([]Ruling{{Void: true}}, api.MaxList)
	for n, e := range numbered(l) {
		places[n-1] = Ruling{Entry: e}
	}
	for _, x := range rulings {
		places[x.Number-1] = x
	}
	var stand []Entry
	for _, x := range places {
		if !x.Void {
			stand = append(stand, x.Entry)
		}
	}
	return stand
}

func differences(a, b []Entry) []int {
	if len(a) < len(b) {
		a, b = b, a
	}
	var differ []int
	for n, e := range numbered(a) {
		if n > len(b) || e != b[n-1] {
			differ = append(differ, n)
		}
	}
	return differ
}

// about returns the rulings about some numbers.
func about(rulings []Ruling, numbers []int) []Ruling {
	var some []Ruling
	for _, x := range rulings {
		if slices.Contains(numbers, x.Number) {
			some = append(some, x)
		}
	}
	return some
}

// isInTime says whether an appeal is made behind the entry that it is about, and not too late.
func (x Appeal) isInTime() bool {
	return x.After >= x.Ruling.Number && x.After <= x.Ruling.Number+Window
}
