package season

import (
	"math"
	"slices"

	"crux/api"
	"crux/check"
)

// CheckTour returns the first error of hosts and travel, or OK.
func CheckTour(t Tour) api.Errno {
	switch {
	case len(t.Hosts) == 0:
		return api.ErrEmpty
	case len(t.Hosts) > MaxContests:
		return api.ErrMany
	}
	e := check.Each(t.Hosts, func(i int, h Host) api.Errno {
		isSame := func(before Host) bool { return before.Name == h.Name }
		return check.First(
			checkName(h.Name),
			check.If(slices.ContainsFunc(t.Hosts[:i], isSame), api.ErrTwice),
			check.Range(h.Days, 1, api.MaxDay),
			checkDay(h.From),
			checkDay(h.To),
			check.If(h.From > h.To, api.ErrOrder),
		)
	})
	return check.First(e, t.checkTravel())
}

// Travel returns the days of travel of an order of hosts.
func Travel(t Tour, order []int) (int, api.Errno) {
	if e := t.checkOrder(order); e != api.OK {
		return 0, e
	}
	return t.travel(order), api.OK
}

// Begins returns the days on which the contests of an order begin, by the numbers of the hosts.
func Begins(t Tour, order []int) ([]int, api.Errno) {
	if e := t.checkOrder(order); e != api.OK {
		return nil, e
	}
	begins, ok := t.begins(order)
	return begins, check.If(!ok, api.ErrInfeasible)
}

// Calendar returns the best order of hosts.
func Calendar(t Tour) ([]int, api.Errno) {
	e := check.First(CheckTour(t), check.If(len(t.Hosts) > api.MaxExact, api.ErrLimit))
	if e != api.OK {
		return nil, e
	}
	best := t.best()
	return best, check.If(best == nil, api.ErrInfeasible)
}

// travel returns the days of travel of an order, or of the beginning of one.
func (t Tour) travel(order []int) int {
	days := 0
	for i := 1; i < len(order); i++ {
		days += t.Travel[order[i-1]][order[i]]
	}
	return days
}

// begins returns the days on which the contests of an order, or of the beginning of one, begin, by the numbers of the hosts, or false if one begins too late.
func (t Tour) begins(order []int) ([]int, bool) {
	begins := make([]int, len(t.Hosts))
	free := 0
	for i, host := range order {
		h := t.Hosts[host]
		if i > 0 {
			free += t.Travel[order[i-1]][host]
		}
		begins[host] = max(h.From, free)
		if begins[host] > h.To {
			return nil, false
		}
		free = begins[host] + h.Days
	}
	return begins, true
}

// best returns the best order, or nil if none is possible. It makes orders in lexicographic order, so that of equal ones the first one stays the best.
func (t Tour) best() []int {
	var best []int
	least := math.MaxInt
	var extend func(order []int)
	extend = func(order []int) {
		if _, ok := t.begins(order); !ok || t.travel(order) >= least {
			return
		}
		if len(order) == len(t.Hosts) {
			best, least = slices.Clone(order), t.travel(order)
		}
		for host := range t.Hosts {
			if !slices.Contains(order, host) {
				extend(append(order, host))
			}
		}
	}
	extend(nil)
	return best
}

func (t Tour) checkTravel() api.Errno {
	if len(t.Travel) != len(t.Hosts) {
		return api.ErrShape
	}
	return check.Each(t.Travel, func(_ int, row []int) api.Errno {
		if len(row) != len(t.Hosts) {
			return api.ErrShape
		}
		return check.Each(row, func(_, days int) api.Errno { return check.Range(days, 0, api.MaxDay) })
	})
}

// checkOrder returns the error of a tour, or that of an order of its hosts.
func (t Tour) checkOrder(order []int) api.Errno {
	e := check.First(CheckTour(t), check.If(len(order) != len(t.Hosts), api.ErrShape))
	if e != api.OK {
		return e
	}
	return check.Each(order, func(i, host int) api.Errno {
		return check.First(
			check.If(host < 0 || host >= len(t.Hosts), api.ErrUnknown),
			check.If(slices.Contains(order[:i], host), api.ErrTwice),
		)
	})
}
