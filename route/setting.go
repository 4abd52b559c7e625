package route

import (
	"cmp"
	"slices"

	"crux/api"
	"crux/check"
	"crux/number"
)

// none stands in a step for the bolt that it does not have.
const none = -1

// maxSteps is the greatest number of steps of a change: those of two full settings without a step that has both bolts.
const maxSteps = 2 * api.MaxHolds

// CheckSetting returns the first error of a setting, or OK.
func CheckSetting(l []Bolt) api.Errno {
	if len(l) > api.MaxHolds {
		return api.ErrMany
	}
	return check.Each(l, func(i int, b Bolt) api.Errno {
		taken := slices.ContainsFunc(l[:i], func(k Bolt) bool { return k.At == b.At })
		return check.First(
			check.Places(b.At),
			check.If(taken, api.ErrTwice),
			check.If(!number.IsName(b.Shape), api.ErrName),
		)
	})
}

// Cost returns the least cost of a change.
func Cost(a, b []Bolt, store int) (int, api.Errno) {
	p, q, e := Prices(a, b, store)
	return sum(p) + sum(q), e
}

// Plan returns a change with the least cost.
func Plan(a, b []Bolt, store int) ([]Step, api.Errno) {
	if e := checkChange(a, b, store); e != api.OK {
		return nil, e
	}
	bolts := exchangeOf(a, b, store).bolts()
	var steps []Step
	for to, from := range bolts {
		steps = append(steps, Step{From: from, To: to})
	}
	for from := range a {
		if !slices.Contains(bolts, from) {
			steps = append(steps, Step{From: from, To: none})
		}
	}
	slices.SortFunc(steps, func(s, t Step) int {
		return cmp.Or(cmp.Compare(s.From, t.From), cmp.Compare(s.To, t.To))
	})
	return steps, api.OK
}

// CheckPlan returns the cost of a change.
func CheckPlan(a, b []Bolt, store int, l []Step) (int, api.Errno) {
	if e := check.First(checkChange(a, b, store), check.If(len(l) > maxSteps, api.ErrMany)); e != api.OK {
		return 0, e
	}
	e := check.Each(l, func(i int, s Step) api.Errno { return s.check(a, b, l[:i]) })
	if e = check.First(e, check.If(!haveAll(l, a, b), api.ErrNone)); e != api.OK {
		return 0, e
	}
	total := 0
	for _, s := range l {
		total += s.cost(a, b, store)
	}
	return total, api.OK
}

// Prices returns prices that prove the least cost.
func Prices(a, b []Bolt, store int) ([]int, []int, api.Errno) {
	if e := checkChange(a, b, store); e != api.OK {
		return nil, nil, e
	}
	p, q := exchangeOf(a, b, store).prices()
	return p, q, api.OK
}

// CheckPrices returns what prices prove.
func CheckPrices(a, b []Bolt, store int, p, q []int) (int, api.Errno) {
	if e := checkChange(a, b, store); e != api.OK {
		return 0, e
	}
	if len(p) != len(a) || len(q) != len(b) {
		return 0, api.ErrShape
	}
	e := check.Each(slices.Concat(p, q), func(_, price int) api.Errno {
		return check.Range(price, -api.MaxNumber, api.MaxNumber)
	})
	if e = check.First(e, check.If(!areProof(a, b, store, p, q), api.ErrProof)); e != api.OK {
		return 0, e
	}
	return sum(p) + sum(q), api.OK
}

func checkChange(a, b []Bolt, store int) api.Errno {
	return check.First(CheckSetting(a), CheckSetting(b), check.Range(store, 0, MaxStore))
}

// check returns the error of a step of a change behind other ones.
func (s Step) check(a, b []Bolt, before []Step) api.Errno {
	switch {
	case s.From < none || s.From >= len(a) || s.To < none || s.To >= len(b):
		return api.ErrUnknown
	case s.From == none && s.To == none:
		return api.ErrEmpty
	case slices.ContainsFunc(before, s.meets):
		return api.ErrTwice
	case s.hasBoth() && a[s.From].Shape != b[s.To].Shape:
		return api.ErrConflict
	}
	return api.OK
}

func (s Step) hasBoth() bool {
	return s.From != none && s.To != none
}

// meets reports whether two steps have a bolt in common.
func (s Step) meets(t Step) bool {
	return s.From != none && s.From == t.From || s.To != none && s.To == t.To
}

// haveAll reports whether steps, none of which meet, have all bolts of both settings.
func haveAll(l []Step, a, b []Bolt) bool {
	bolts := 0
	for _, s := range l {
		bolts++
		if s.hasBoth() {
			bolts++
		}
	}
	return bolts == len(a)+len(b)
}

func (s Step) cost(a, b []Bolt, store int) int {
	if s.hasBoth() {
		return distance(a[s.From].At, b[s.To].At)
	}
	return store
}

// distance returns what a step from one place to another one costs.
func distance(a, b api.Place) int {
	return size(b.X-a.X) + size(b.Y-a.Y) + size(b.Z-a.Z)
}

func size(n int) int {
	return max(n, -n)
}

// areProof reports whether prices prove that no change costs less than their sum.
func areProof(a, b []Bolt, store int, p, q []int) bool {
	for _, price := range slices.Concat(p, q) {
		if price > store {
			return false
		}
	}
	for i, from := range a {
		for j, to := range b {
			if from.Shape == to.Shape && p[i]+q[j] > distance(from.At, to.At) {
				return false
			}
		}
	}
	return true
}

func sum(l []int) int {
	total := 0
	for _, n := range l {
		total += n
	}
	return total
}
