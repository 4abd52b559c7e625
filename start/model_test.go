package start_test

import (
	"slices"
	"strings"

	"crux/api"
	"crux/number"
	"crux/start"
)

// These functions follow the chapter sentence by sentence. The package is compared with them.

func outside(n, least, greatest int) bool {
	return n < least || n > greatest
}

func modelStarters(l []start.Starter) api.Errno {
	if len(l) > 160 {
		return api.ErrMany
	}
	seen := map[string]bool{}
	for _, s := range l {
		if !number.IsName(s.Name) {
			return api.ErrName
		}
		if seen[s.Name] {
			return api.ErrTwice
		}
		seen[s.Name] = true
		if !number.IsName(s.Nation) {
			return api.ErrName
		}
		if outside(s.Seed, 0, 999999999) {
			return api.ErrRange
		}
	}
	return api.OK
}

func modelKey(key int) api.Errno {
	if outside(key, 1, 2147483646) {
		return api.ErrRange
	}
	return api.OK
}

// modelSeeded takes the best starter of those who are left, again and again.
func modelSeeded(l []start.Starter, key int) []int {
	left, _ := number.Draw(key, len(l))
	var order []int
	for len(left) > 0 {
		best := 0
		for i, s := range left {
			isBetter := l[s].Seed != 0 && (l[left[best]].Seed == 0 || l[s].Seed < l[left[best]].Seed)
			if isBetter {
				best = i
			}
		}
		order = append(order, left[best])
		left = slices.Delete(left, best, best+1)
	}
	return order
}

// modelGroups deals an order to and fro.
func modelGroups(order []int, groups int) [][]int {
	lists := make([][]int, groups)
	at, step := 0, 1
	for _, s := range order {
		lists[at] = append(lists[at], s)
		if at+step < 0 || at+step >= groups {
			step = -step
		} else {
			at += step
		}
	}
	return lists
}

func modelOrder(n int, order []int) api.Errno {
	seen := map[int]bool{}
	for _, s := range order {
		if outside(s, 0, n-1) {
			return api.ErrUnknown
		}
		if seen[s] {
			return api.ErrTwice
		}
		seen[s] = true
	}
	if len(seen) < n {
		return api.ErrNone
	}
	return api.OK
}

func modelNumbers(order []int) api.Errno {
	if len(order) > 160 {
		return api.ErrMany
	}
	seen := map[int]bool{}
	for _, n := range order {
		if outside(n, 0, 999999999) {
			return api.ErrRange
		}
		if seen[n] {
			return api.ErrTwice
		}
		seen[n] = true
	}
	return api.OK
}

func modelNeighbours(l []start.Starter, order []int) int {
	pairs := 0
	for i := 1; i < len(order); i++ {
		if l[order[i]].Nation == l[order[i-1]].Nation {
			pairs++
		}
	}
	return pairs
}

// modelFewest tries all start lists.
func modelFewest(l []start.Starter) int {
	fewest := len(l)
	var extend func(order []int)
	extend = func(order []int) {
		if len(order) == len(l) {
			fewest = min(fewest, modelNeighbours(l, order))
		}
		for i := range l {
			if !slices.Contains(order, i) {
				extend(append(order[:len(order):len(order)], i))
			}
		}
	}
	extend(nil)
	return fewest
}

func modelCalls(n, first, each int, others ...int) api.Errno {
	if outside(n, 0, 160) {
		return api.ErrRange
	}
	for _, time := range append(others, first, each) {
		if outside(time, 0, 86399999) {
			return api.ErrRange
		}
	}
	for i := range n {
		if first+i*each > 86399999 {
			return api.ErrLarge
		}
	}
	return api.OK
}

// modelSlots returns the seeds of k slots, a power of 2.
func modelSlots(k int) []int {
	if k == 1 {
		return []int{1}
	}
	var slots []int
	for _, s := range modelSlots(k / 2) {
		slots = append(slots, s, k+1-s)
	}
	return slots
}

func modelBracket(n int) []int {
	k := 1
	for k < n {
		k *= 2
	}
	slots := modelSlots(k)
	for i, s := range slots {
		if s > n {
			slots[i] = 0
		}
	}
	return slots
}

// modelMeet lets both seeds win until they meet.
func modelMeet(n, a, b int) int {
	slots := modelBracket(n)
	for round := 1; ; round++ {
		var next []int
		for i := 0; i < len(slots); i += 2 {
			if slices.Contains(slots[i:i+2], a) && slices.Contains(slots[i:i+2], b) {
				return round
			}
			winner := slots[i]
			if slots[i+1] == a || slots[i+1] == b {
				winner = slots[i+1]
			}
			next = append(next, winner)
		}
		slots = next
	}
}

// modelFirst returns who has won a race from the beginning.
func modelFirst(a, b string) int {
	switch {
	case a != "" && b != "":
		return 0
	case a != "":
		return 1
	case b != "":
		return 2
	}
	return 3
}

func modelRaces(names []string) []start.Race {
	if len(names) == 1 {
		return []start.Race{race(names[0], "", 1)}
	}
	slots := modelBracket(len(names))
	all := append([]string{""}, names...)
	var races []start.Race
	for i := 0; i < len(slots); i += 2 {
		a, b := all[slots[i]], all[slots[i+1]]
		races = append(races, race(a, b, modelFirst(a, b)))
	}
	return races
}

func modelCheckRaces(l []start.Race) api.Errno {
	if !slices.Contains([]int{1, 2, 4, 8, 16, 32}, len(l)) {
		return api.ErrShape
	}
	seen := map[string]bool{}
	for _, r := range l {
		for _, name := range []string{r.A, r.B} {
			if name != "" && !number.IsName(name) {
				return api.ErrName
			}
		}
		for _, name := range []string{r.A, r.B} {
			if name != "" && seen[name] {
				return api.ErrTwice
			}
			seen[name] = true
		}
		if outside(r.Winner, 0, 3) {
			return api.ErrRange
		}
		if (r.A == "" || r.B == "") && r.Winner != modelFirst(r.A, r.B) {
			return api.ErrState
		}
	}
	return api.OK
}

func modelDecided(l []start.Race) bool {
	for _, r := range l {
		if r.Winner == 0 {
			return false
		}
	}
	return true
}

// modelNext returns the races of the next round, by slots.
func modelNext(l []start.Race) ([]start.Race, api.Errno) {
	if e := modelCheckRaces(l); e != api.OK {
		return nil, e
	}
	if len(l) == 1 {
		return nil, api.ErrOver
	}
	if !modelDecided(l) {
		return nil, api.ErrOpen
	}
	var slots []string
	for _, r := range l {
		slots = append(slots, []string{"", r.A, r.B, ""}[r.Winner])
	}
	var races []start.Race
	for i := 0; i < len(slots); i += 2 {
		races = append(races, race(slots[i], slots[i+1], modelFirst(slots[i], slots[i+1])))
	}
	return races, api.OK
}

func modelSmall(l []start.Race) (start.Race, api.Errno) {
	if e := modelCheckRaces(l); e != api.OK {
		return start.Race{}, e
	}
	if len(l) != 2 {
		return start.Race{}, api.ErrShape
	}
	if !modelDecided(l) {
		return start.Race{}, api.ErrOpen
	}
	var losers []string
	for _, r := range l {
		losers = append(losers, []string{"", r.B, r.A, ""}[r.Winner])
	}
	return race(losers[0], losers[1], modelFirst(losers[0], losers[1])), api.OK
}

func modelDuel(a, b start.Run) (int, api.Errno) {
	for _, n := range []int{a.Reaction, a.Time, b.Reaction, b.Time} {
		if outside(n, 0, 86399999) {
			return 0, api.ErrRange
		}
	}
	if a.Reaction < 100 || b.Reaction < 100 {
		if a.Reaction >= 100 {
			return 1, api.OK
		}
		if b.Reaction >= 100 {
			return 2, api.OK
		}
		return 3, api.OK
	}
	if a.Time == 0 && b.Time == 0 || a == b {
		return 0, api.OK
	}
	if b.Time == 0 {
		return 1, api.OK
	}
	if a.Time == 0 {
		return 2, api.OK
	}
	if a.Time < b.Time || a.Time == b.Time && a.Reaction < b.Reaction {
		return 1, api.OK
	}
	return 2, api.OK
}

func modelPlaces(rounds [][]start.Race) ([]start.Place, api.Errno) {
	if len(rounds) == 0 {
		return nil, api.ErrEmpty
	}
	if len(rounds) > 6 {
		return nil, api.ErrMany
	}
	for i, l := range rounds {
		if e := modelCheckRaces(l); e != api.OK {
			return nil, e
		}
		if i == 0 {
			continue
		}
		if 2*len(l) != len(rounds[i-1]) {
			return nil, api.ErrShape
		}
		next, e := modelNext(rounds[i-1])
		if e != api.OK {
			return nil, e
		}
		for j, r := range l {
			if r.A != next[j].A || r.B != next[j].B {
				return nil, api.ErrConflict
			}
		}
	}
	last := rounds[len(rounds)-1]
	if len(last) > 1 {
		return nil, api.ErrOver
	}
	if last[0].Winner == 0 {
		return nil, api.ErrOpen
	}
	var places []start.Place
	for place := 1; place <= 33; place++ {
		for _, l := range rounds {
			for _, r := range l {
				places = append(places, modelPlacesOf(r, len(l), place)...)
			}
		}
	}
	return places, api.OK
}

// modelPlacesOf returns the climbers of a race, in a round of m races, who have a place by it.
func modelPlacesOf(r start.Race, m, place int) []start.Place {
	var places []start.Place
	for lane, name := range []string{r.A, r.B} {
		isWinner := lane+1 == r.Winner
		if name != "" && (isWinner && m == 1 && place == 1 || !isWinner && place == m+1) {
			places = append(places, start.Place{Name: name, Place: place})
		}
	}
	return places
}

func modelResults(l []api.Result) api.Errno {
	if len(l) > 160 {
		return api.ErrMany
	}
	seen := map[string]bool{}
	values := -1
	for _, r := range l {
		if !number.IsName(r.Climber) {
			return api.ErrName
		}
		if seen[r.Climber] {
			return api.ErrTwice
		}
		seen[r.Climber] = true
		if strings.Contains(r.State, "/") || !strings.Contains("//dns/dnf/dsq/", "/"+r.State+"/") {
			return api.ErrKind
		}
		if r.State != "" && len(r.Values) > 0 {
			return api.ErrForm
		}
		if len(r.Values) > 8 {
			return api.ErrMany
		}
		for _, v := range r.Values {
			if outside(v, -999999999, 999999999) {
				return api.ErrRange
			}
		}
		if r.State == "" && values < 0 {
			values = len(r.Values)
		}
		if r.State == "" && values != len(r.Values) {
			return api.ErrShape
		}
	}
	return api.OK
}

// modelIsBetter says whether the first difference of two results is in favour of the first one.
func modelIsBetter(a, b api.Result) bool {
	if a.State != "" || b.State != "" {
		return false
	}
	for i := range a.Values {
		if a.Values[i] != b.Values[i] {
			return a.Values[i] > b.Values[i]
		}
	}
	return false
}

// modelForward puts those who go on in order by how many are better.
func modelForward(l []api.Result, quota int) []string {
	var on []string
	for rank := 1; rank <= quota; rank++ {
		for _, r := range l {
			better := 0
			for _, other := range l {
				if modelIsBetter(other, r) {
					better++
				}
			}
			if r.State == "" && 1+better == rank {
				on = append(on, r.Climber)
			}
		}
	}
	return on
}

func modelOut(l []api.Result, out []string) api.Errno {
	if len(out) > 160 {
		return api.ErrMany
	}
	isKnown := map[string]bool{}
	for _, r := range l {
		isKnown[r.Climber] = true
	}
	seen := map[string]bool{}
	for _, name := range out {
		if !isKnown[name] {
			return api.ErrUnknown
		}
		if seen[name] {
			return api.ErrTwice
		}
		seen[name] = true
	}
	return api.OK
}

// modelWithout returns the results of those who have not withdrawn.
func modelWithout(l []api.Result, out []string) []api.Result {
	var others []api.Result
	for _, r := range l {
		if !slices.Contains(out, r.Climber) {
			others = append(others, r)
		}
	}
	return others
}
