package result_test

import (
	"math/big"
	"slices"
	"sort"

	"crux/api"
	"crux/number"
	"crux/result"
)

// These functions follow the chapter sentence by sentence. The package is compared with them.

func outside(n, least, greatest int) bool {
	return n < least || n > greatest
}

// first returns the first error that is not OK.
func first(l ...api.Errno) api.Errno {
	for _, e := range l {
		if e != api.OK {
			return e
		}
	}
	return api.OK
}

// when returns an error if something is wrong.
func when(wrong bool, e api.Errno) api.Errno {
	if wrong {
		return e
	}
	return api.OK
}

func modelResult(r api.Result) api.Errno {
	if !number.IsName(r.Climber) {
		return api.ErrName
	}
	if r.State != "" && r.State != "dns" && r.State != "dnf" && r.State != "dsq" {
		return api.ErrKind
	}
	if r.State != "" && len(r.Values) > 0 {
		return api.ErrForm
	}
	if len(r.Values) > 8 {
		return api.ErrMany
	}
	for _, value := range r.Values {
		if outside(value, -999999999, 999999999) {
			return api.ErrRange
		}
	}
	return api.OK
}

func modelRound(l []api.Result) api.Errno {
	if len(l) > 160 {
		return api.ErrMany
	}
	seen := map[string]bool{}
	values := -1
	for _, r := range l {
		if e := modelResult(r); e != api.OK {
			return e
		}
		if seen[r.Climber] {
			return api.ErrTwice
		}
		seen[r.Climber] = true
		if r.State == "" && values < 0 {
			values = len(r.Values)
		}
		if r.State == "" && len(r.Values) != values {
			return api.ErrShape
		}
	}
	return api.OK
}

func modelCompare(a, b api.Result) api.Errno {
	shape := a.State == "" && b.State == "" && len(a.Values) != len(b.Values)
	return first(modelResult(a), modelResult(b), when(shape, api.ErrShape))
}

// modelBetter returns whether one result is better than another one.
func modelBetter(a, b api.Result) bool {
	if a.State == "" && b.State == "" {
		for i := range a.Values {
			if a.Values[i] != b.Values[i] {
				return a.Values[i] > b.Values[i]
			}
		}
		return false
	}
	if a.State == "" || b.State == "" {
		return a.State == ""
	}
	worse := map[string]int{"dns": 1, "dnf": 2, "dsq": 3}
	return worse[a.State] < worse[b.State]
}

func modelRank(l []api.Result) []int {
	var ranks []int
	for _, r := range l {
		rank := 1
		for _, x := range l {
			if modelBetter(x, r) {
				rank++
			}
		}
		ranks = append(ranks, rank)
	}
	return ranks
}

func modelThrough(l []api.Result, places int) []string {
	var on []string
	ranks := modelRank(l)
	for rank := 1; rank <= min(places, len(l)); rank++ {
		for i, r := range l {
			if ranks[i] == rank && r.State == "" {
				on = append(on, r.Climber)
			}
		}
	}
	return on
}

// resultOf returns the result of a climber in a round, and whether there is one.
func resultOf(l []api.Result, name string) (api.Result, bool) {
	for _, r := range l {
		if r.Climber == name {
			return r, true
		}
	}
	return api.Result{}, false
}

func allIn(l, others []api.Result) bool {
	for _, r := range l {
		if _, ok := resultOf(others, r.Climber); !ok {
			return false
		}
	}
	return true
}

func modelContest(c result.Contest) api.Errno {
	if len(c.Rounds) == 0 {
		return api.ErrEmpty
	}
	if len(c.Rounds) > 8 {
		return api.ErrMany
	}
	for i, l := range c.Rounds {
		if e := modelRound(l); e != api.OK {
			return e
		}
		if i > 0 && !allIn(l, c.Rounds[i-1]) {
			return api.ErrUnknown
		}
	}
	if len(c.Seeds) > 160 {
		return api.ErrMany
	}
	for i, name := range c.Seeds {
		if _, ok := resultOf(c.Rounds[0], name); !ok {
			return api.ErrUnknown
		}
		if slices.Contains(c.Seeds[:i], name) {
			return api.ErrTwice
		}
	}
	return api.OK
}

// modelDecides returns what tells two climbers apart, and who is better.
func modelDecides(c result.Contest, a, b string) (int, int) {
	last := len(c.Rounds) - 1
	for i, l := range c.Rounds {
		_, hasA := resultOf(l, a)
		_, hasB := resultOf(l, b)
		if hasA && !hasB {
			return i, -1
		}
		if hasB && !hasA {
			return i, 1
		}
		if !hasA {
			last = i - 1
			break
		}
	}
	for i := last; i >= 0; i-- {
		x, _ := resultOf(c.Rounds[i], a)
		y, _ := resultOf(c.Rounds[i], b)
		if modelBetter(x, y) {
			return i, -1
		}
		if modelBetter(y, x) {
			return i, 1
		}
	}
	for _, name := range c.Seeds {
		if name == a {
			return len(c.Rounds), -1
		}
		if name == b {
			return len(c.Rounds), 1
		}
	}
	return -1, 0
}

func modelStanding(c result.Contest) []result.Place {
	var places []result.Place
	for _, r := range c.Rounds[0] {
		rank := 1
		for _, x := range c.Rounds[0] {
			if x.Climber != r.Climber {
				if _, order := modelDecides(c, x.Climber, r.Climber); order == -1 {
					rank++
				}
			}
		}
		places = append(places, result.Place{Climber: r.Climber, Rank: rank})
	}
	sort.SliceStable(places, func(i, j int) bool { return places[i].Rank < places[j].Rank })
	return places
}

func modelTies(c result.Contest) [][]string {
	var ties [][]string
	places := modelStanding(c)
	for rank := range len(places) + 1 {
		var group []string
		for _, p := range places {
			if p.Rank == rank {
				group = append(group, p.Climber)
			}
		}
		if len(group) > 1 {
			ties = append(ties, group)
		}
	}
	return ties
}

func modelChanged(a, b result.Contest) []string {
	before, after := modelStanding(a), modelStanding(b)
	var changed []string
	for _, p := range slices.Concat(before, after) {
		same := slices.Contains(before, p) && slices.Contains(after, p)
		if !same && !slices.Contains(changed, p.Climber) {
			changed = append(changed, p.Climber)
		}
	}
	slices.Sort(changed)
	return changed
}

func modelDisciplines(l [][]api.Result) api.Errno {
	if len(l) == 0 {
		return api.ErrEmpty
	}
	if len(l) > 8 {
		return api.ErrMany
	}
	for _, results := range l {
		if e := modelRound(results); e != api.OK {
			return e
		}
		if len(results) != len(l[0]) {
			return api.ErrShape
		}
		if !allIn(results, l[0]) {
			return api.ErrUnknown
		}
	}
	return api.OK
}

// modelNumbers returns the numbers of a climber in ascending order.
func modelNumbers(l [][]api.Result, name string) []*big.Rat {
	var numbers []*big.Rat
	for _, results := range l {
		ranks := modelRank(results)
		own := ranks[slices.IndexFunc(results, func(r api.Result) bool { return r.Climber == name })]
		sum, shares := 0, 0
		for _, rank := range ranks {
			if rank == own {
				sum += own + shares
				shares++
			}
		}
		numbers = append(numbers, big.NewRat(int64(sum), int64(shares)))
	}
	slices.SortFunc(numbers, (*big.Rat).Cmp)
	return numbers
}

func modelCombined(l [][]api.Result, kind string) []result.Total {
	total := func(name string) *big.Rat {
		sum, product := big.NewRat(0, 1), big.NewRat(1, 1)
		for _, x := range modelNumbers(l, name) {
			sum.Add(sum, x)
			product.Mul(product, x)
		}
		if kind == "sum" {
			return sum
		}
		return product
	}
	isBetter := func(a, b string) bool {
		if order := total(a).Cmp(total(b)); order != 0 {
			return order < 0
		}
		others := modelNumbers(l, b)
		for i, x := range modelNumbers(l, a) {
			if order := x.Cmp(others[i]); order != 0 {
				return order < 0
			}
		}
		return false
	}
	var totals []result.Total
	for _, r := range l[0] {
		rank := 1
		for _, x := range l[0] {
			if isBetter(x.Climber, r.Climber) {
				rank++
			}
		}
		totals = append(totals, result.Total{Climber: r.Climber, Number: api.Rat(total(r.Climber).RatString()), Rank: rank})
	}
	sort.SliceStable(totals, func(i, j int) bool { return totals[i].Rank < totals[j].Rank })
	return totals
}

func modelOpen(l []result.Open) api.Errno {
	if len(l) == 0 {
		return api.ErrEmpty
	}
	if len(l) > 160 {
		return api.ErrMany
	}
	seen := map[string]bool{}
	for _, o := range l {
		if !number.IsName(o.Climber) {
			return api.ErrName
		}
		if seen[o.Climber] {
			return api.ErrTwice
		}
		seen[o.Climber] = true
		if outside(o.Low, 0, 99999) || outside(o.High, 0, 99999) {
			return api.ErrRange
		}
		if o.Low > o.High {
			return api.ErrOrder
		}
	}
	return api.OK
}

func modelQuestion(l []result.Open, climber, rank int) api.Errno {
	return first(modelOpen(l), when(outside(climber, 0, len(l)-1), api.ErrUnknown), when(outside(rank, 1, len(l)), api.ErrRange))
}

// rankWith returns the rank of a climber with values.
func rankWith(values []int, climber int) int {
	rank := 1
	for _, value := range values {
		if value > values[climber] {
			rank++
		}
	}
	return rank
}

// modelRanks tries all values.
func modelRanks(l []result.Open, climber int) []int {
	possible := map[int]bool{}
	values := make([]int, len(l))
	var try func(i int)
	try = func(i int) {
		if i == len(l) {
			possible[rankWith(values, climber)] = true
			return
		}
		for value := l[i].Low; value <= l[i].High; value++ {
			values[i] = value
			try(i + 1)
		}
	}
	try(0)
	var ranks []int
	for rank := range len(l) {
		if possible[rank+1] {
			ranks = append(ranks, rank+1)
		}
	}
	return ranks
}

func modelWitness(l []result.Open, climber, rank int, values []int) api.Errno {
	if e := modelQuestion(l, climber, rank); e != api.OK {
		return e
	}
	if len(values) != len(l) {
		return api.ErrShape
	}
	for i, value := range values {
		if outside(value, l[i].Low, l[i].High) {
			return api.ErrRange
		}
	}
	return when(rankWith(values, climber) != rank, api.ErrProof)
}

func modelExcluded(l []result.Open, climber, rank int, bars []result.Bar) api.Errno {
	if e := modelQuestion(l, climber, rank); e != api.OK {
		return e
	}
	if len(bars) == 0 {
		return api.ErrEmpty
	}
	next := big.NewInt(int64(l[climber].Low))
	for _, b := range bars {
		if b.Reason != "above" && b.Reason != "below" {
			return api.ErrKind
		}
		if b.From > b.To || next.Cmp(big.NewInt(int64(b.From))) != 0 {
			return api.ErrOrder
		}
		lows, highs := 0, 0
		for i, o := range l {
			if i != climber && o.Low > b.To {
				lows++
			}
			if i != climber && o.High > b.From {
				highs++
			}
		}
		if b.Reason == "above" && lows < rank || b.Reason == "below" && highs > rank-2 {
			return api.ErrProof
		}
		next.Add(big.NewInt(int64(b.To)), big.NewInt(1))
	}
	return when(bars[len(bars)-1].To != l[climber].High, api.ErrShape)
}

func modelLeague(l result.League) api.Errno {
	n := len(l.Climbers)
	if n == 0 {
		return api.ErrEmpty
	}
	if n > 32 {
		return api.ErrMany
	}
	for i, name := range l.Climbers {
		if !number.IsName(name) {
			return api.ErrName
		}
		if slices.Contains(l.Climbers[:i], name) {
			return api.ErrTwice
		}
	}
	if len(l.Points) != n {
		return api.ErrShape
	}
	for _, points := range l.Points {
		if outside(points, 0, 99999) {
			return api.ErrRange
		}
	}
	if len(l.Duels) > 64 {
		return api.ErrMany
	}
	for _, duel := range l.Duels {
		if outside(duel.A, 0, n-1) || outside(duel.B, 0, n-1) {
			return api.ErrUnknown
		}
		if duel.A == duel.B {
			return api.ErrTwice
		}
	}
	return api.OK
}

func modelMember(l result.League, climber int) api.Errno {
	return first(modelLeague(l), when(outside(climber, 0, len(l.Climbers)-1), api.ErrUnknown))
}

func modelTitle(l result.League, climber int, winners []int) api.Errno {
	if e := modelMember(l, climber); e != api.OK {
		return e
	}
	if len(winners) != len(l.Duels) {
		return api.ErrShape
	}
	points := slices.Clone(l.Points)
	for i, winner := range winners {
		if winner != l.Duels[i].A && winner != l.Duels[i].B {
			return api.ErrUnknown
		}
		points[winner]++
	}
	for _, x := range points {
		if x > points[climber] {
			return api.ErrProof
		}
	}
	return api.OK
}

// modelCanBeFirst tries all winners.
func modelCanBeFirst(l result.League, climber int) bool {
	winners := make([]int, len(l.Duels))
	for i := range 1 << len(l.Duels) {
		for j, duel := range l.Duels {
			winners[j] = duel.A
			if i>>j&1 == 1 {
				winners[j] = duel.B
			}
		}
		if modelTitle(l, climber, winners) == api.OK {
			return true
		}
	}
	return false
}

func modelEliminated(l result.League, climber int, set []int) api.Errno {
	if e := modelMember(l, climber); e != api.OK {
		return e
	}
	if len(set) == 0 {
		return api.ErrEmpty
	}
	before := -1
	for _, n := range set {
		if outside(n, 0, len(l.Climbers)-1) {
			return api.ErrUnknown
		}
		if n <= before {
			return api.ErrOrder
		}
		if n == climber {
			return api.ErrState
		}
		before = n
	}
	most, sum := l.Points[climber], 0
	for _, n := range set {
		sum += l.Points[n]
	}
	for _, duel := range l.Duels {
		if duel.A == climber || duel.B == climber {
			most++
		}
		if slices.Contains(set, duel.A) && slices.Contains(set, duel.B) {
			sum++
		}
	}
	return when(sum <= len(set)*most, api.ErrProof)
}

// modelSmallest returns the first set of the fewest climbers that proves that a climber cannot be first.
func modelSmallest(l result.League, climber int) []int {
	for size := range len(l.Climbers) {
		if set := modelSet(l, climber, size+1, nil); set != nil {
			return set
		}
	}
	return nil
}

// modelSet tries the sets of a size that begin with some climbers, in lexicographic order.
func modelSet(l result.League, climber, size int, begin []int) []int {
	if len(begin) == size {
		if modelEliminated(l, climber, begin) == api.OK {
			return slices.Clone(begin)
		}
		return nil
	}
	for n := range l.Climbers {
		if len(begin) == 0 || n > begin[len(begin)-1] {
			if set := modelSet(l, climber, size, append(slices.Clone(begin), n)); set != nil {
				return set
			}
		}
	}
	return nil
}

// modelBlocking returns a set that proves that a climber cannot be first, or nothing if there is none. Whoever has too many points passes one on, duel by duel, to somebody who has fewer than the climber; if there is nobody, all whom a point can reach are the set.
func modelBlocking(l result.League, climber int) []int {
	points := slices.Clone(l.Points)
	winners := make([]int, len(l.Duels))
	for i, duel := range l.Duels {
		winners[i] = duel.A
		if duel.B == climber {
			winners[i] = duel.B
		}
		points[winners[i]]++
	}
	for {
		from := slices.IndexFunc(points, func(x int) bool { return x > points[climber] })
		if from < 0 {
			return nil
		}
		reached := []int{from}
		through := map[int]int{} // the duel by which a climber is reached
		end := -1
		for k := 0; k < len(reached) && end < 0; k++ {
			for i, duel := range l.Duels {
				other := duel.A + duel.B - reached[k]
				if winners[i] != reached[k] || slices.Contains(reached, other) {
					continue
				}
				reached = append(reached, other)
				through[other] = i
				if points[other] < points[climber] {
					end = other
					break
				}
			}
		}
		if end < 0 {
			slices.Sort(reached)
			return reached
		}
		points[from]--
		points[end]++
		for n := end; n != from; {
			i := through[n]
			n, winners[i] = winners[i], n
		}
	}
}
