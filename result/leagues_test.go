package result_test

import (
	"math"
	"slices"
	"testing"

	"crux/api"
	"crux/result"
)

// P7.5: the errors of a league and of the number of a climber, in their order.
func TestErrorsOfLeagues(t *testing.T) {
	points := func(n int) []int { return make([]int, n) }
	duels := func(n int) []result.Duel { return slices.Repeat([]result.Duel{{A: 1, B: 0}}, n) }
	duel := func(a, b int) []result.Duel { return []result.Duel{{A: 0, B: 1}, {A: a, B: b}} }
	for _, row := range []struct {
		what string
		l    result.League
		e    api.Errno
	}{
		{"nobody", result.League{}, api.ErrEmpty},
		{"example 6", league(), api.OK},
		{"one", result.League{Climbers: names(1), Points: points(1)}, api.OK},
		{"the most climbers", result.League{Climbers: names(32), Points: points(32)}, api.OK},
		{"one more", result.League{Climbers: names(33), Points: points(33)}, api.ErrMany},
		{"too many before a wrong name", result.League{Climbers: append(names(32), "")}, api.ErrMany},
		{"no name", result.League{Climbers: []string{""}, Points: points(1)}, api.ErrName},
		{"the longest name", result.League{Climbers: []string{longName}, Points: points(1)}, api.OK},
		{"a name that is too long", result.League{Climbers: []string{tooLong}, Points: points(1)}, api.ErrName},
		{"a name twice", result.League{Climbers: []string{"a", "b", "a"}, Points: points(3)}, api.ErrTwice},
		{"the first name with an error", result.League{Climbers: []string{"a", "a", ""}}, api.ErrTwice},
		{"the names before the points", result.League{Climbers: []string{"a", ""}}, api.ErrName},
		{"too few points", result.League{Climbers: names(2), Points: points(1)}, api.ErrShape},
		{"too many points", result.League{Climbers: names(2), Points: points(3)}, api.ErrShape},
		{"the number of points before their range", result.League{Climbers: names(2), Points: []int{-1}}, api.ErrShape},
		{"the least and the greatest points", result.League{Climbers: names(2), Points: []int{0, 99999}}, api.OK},
		{"points below", result.League{Climbers: names(2), Points: []int{0, -1}}, api.ErrRange},
		{"points above", result.League{Climbers: names(2), Points: []int{100000, 0}}, api.ErrRange},
		{"the points before the duels", result.League{Climbers: names(2), Points: []int{0, -1}, Duels: duels(65)}, api.ErrRange},
		{"the most duels", result.League{Climbers: names(2), Points: points(2), Duels: duels(64)}, api.OK},
		{"one more duel", result.League{Climbers: names(2), Points: points(2), Duels: duels(65)}, api.ErrMany},
		{"too many duels before a wrong one", result.League{Climbers: names(1), Points: points(1), Duels: duels(65)}, api.ErrMany},
		{"an unknown A", result.League{Climbers: names(2), Points: points(2), Duels: duel(2, 1)}, api.ErrUnknown},
		{"an unknown B", result.League{Climbers: names(2), Points: points(2), Duels: duel(0, 2)}, api.ErrUnknown},
		{"a negative A", result.League{Climbers: names(2), Points: points(2), Duels: duel(-1, 1)}, api.ErrUnknown},
		{"a negative B", result.League{Climbers: names(2), Points: points(2), Duels: duel(0, math.MinInt)}, api.ErrUnknown},
		{"a duel of one", result.League{Climbers: names(2), Points: points(2), Duels: duel(1, 1)}, api.ErrTwice},
		{"a duel of an unknown one", result.League{Climbers: names(2), Points: points(2), Duels: duel(7, 7)}, api.ErrUnknown},
		{"the first duel with an error", result.League{Climbers: names(2), Points: points(2), Duels: append(duel(1, 1), duel(2, 1)...)}, api.ErrTwice},
	} {
		want(t, "CheckLeague: "+row.what, result.CheckLeague(row.l), row.e)
		for _, climber := range []int{-1, len(row.l.Climbers), math.MinInt, math.MaxInt} {
			_, title := result.Title(row.l, climber)
			_, eliminated := result.Eliminated(row.l, climber)
			for _, e := range []api.Errno{title, result.CheckTitle(row.l, climber, []int{-1}), eliminated, result.CheckEliminated(row.l, climber, nil)} {
				want(t, "the error before that of the climber: "+row.what, e, first(row.e, api.ErrUnknown))
			}
		}
	}
}

// wantTitle reports a climber who should be first, or eliminated by a set.
func wantTitle(t *testing.T, what string, l result.League, climber int, set []int) {
	t.Helper()
	titleError, setError := api.OK, api.ErrNone
	if set != nil {
		titleError, setError = api.ErrInfeasible, api.OK
	}
	winners, e := result.Title(l, climber)
	want(t, "the error of Title: "+what, e, titleError)
	if e == api.OK {
		want(t, "CheckTitle: "+what, result.CheckTitle(l, climber, winners), api.OK)
		want(t, "winners by the model: "+what, modelTitle(l, climber, winners), api.OK)
	}
	if len(l.Climbers) > 8 {
		setError = api.ErrLimit
		set = nil
	}
	got, e := result.Eliminated(l, climber)
	want(t, "the set: "+what, got, set)
	want(t, "the error of Eliminated: "+what, e, setError)
	if e == api.OK {
		want(t, "CheckEliminated: "+what, result.CheckEliminated(l, climber, got), api.OK)
	}
}

// P7.5: who can still be first, and the smallest sets that prove that somebody cannot.
func TestTitleAndEliminated(t *testing.T) {
	alone := result.League{Climbers: names(3), Points: []int{5, 4, 4}, Duels: []result.Duel{{A: 2, B: 1}}}
	several := result.League{Climbers: names(5), Points: []int{2, 0, 3, 4, 3}}
	circle := result.League{Climbers: names(4), Points: []int{3, 2, 2, 2}, Duels: []result.Duel{{A: 1, B: 2}, {A: 2, B: 3}, {A: 3, B: 1}}}
	tight := result.League{Climbers: names(4), Points: []int{2, 2, 2, 2}, Duels: []result.Duel{{A: 1, B: 2}, {A: 0, B: 3}, {A: 2, B: 3}, {A: 3, B: 1}}}
	three := result.League{Climbers: names(4), Points: []int{2, 2, 2, 2}, Duels: []result.Duel{{A: 1, B: 2}, {A: 2, B: 3}}}
	pairs := result.League{Climbers: names(5), Points: []int{2, 2, 2, 2, 2}, Duels: []result.Duel{{A: 3, B: 4}, {A: 2, B: 1}}}
	for _, row := range []struct {
		what    string
		l       result.League
		climber int
		set     []int
	}{
		{"example 6", league(), 2, []int{0, 1}},
		{"example 6", league(), 1, nil},
		{"example 6", league(), 0, nil},
		{"example 6", league(), 3, []int{0}},
		{"one climber", result.League{Climbers: names(1), Points: []int{0}}, 0, nil},
		{"no duels, first", alone, 0, nil},
		{"as many points as another one", alone, 1, nil},
		{"as many points as another one", alone, 2, nil},
		{"no duels, the first of several with more", several, 0, []int{2}},
		{"no duels, the first of all", several, 1, []int{0}},
		{"no duels, the only one with more", several, 4, []int{3}},
		{"a duel for each of three", circle, 0, nil},
		{"a duel for each of three", circle, 1, nil},
		{"each of three gets a point", tight, 0, nil},
		{"who has no duel", three, 0, []int{1, 2}},
		{"the first of two pairs", pairs, 0, []int{1, 2}},
		{"a member of a pair", pairs, 1, nil},
	} {
		wantTitle(t, row.what, row.l, row.climber, row.set)
	}
}

// P7.5: a duel has to be given to another winner so that somebody else can have one.
func TestTitleNeedsOtherWinners(t *testing.T) {
	l := result.League{Climbers: names(6), Points: []int{1, 0, 0, 0, 0, 0}}
	for i := 1; i < 5; i++ {
		l.Duels = append(l.Duels, result.Duel{A: i, B: i + 1})
	}
	l.Duels = append(l.Duels, result.Duel{A: 1, B: 5})
	for shift := range l.Duels {
		turned := l
		turned.Duels = slices.Concat(l.Duels[shift:], l.Duels[:shift])
		wantTitle(t, "each of five gets a point", turned, 0, nil)
		turned.Points = []int{1, 1, 0, 0, 0, 0}
		wantTitle(t, "six points for five", turned, 0, []int{1, 2, 3, 4, 5})
	}
}

// P7.5: any winners with which nobody has more points, and no others.
func TestCheckTitle(t *testing.T) {
	for _, row := range []struct {
		what    string
		climber int
		winners []int
		e       api.Errno
	}{
		{"example 6", 1, []int{1, 2}, api.OK},
		{"another winner of the duel of others", 1, []int{1, 3}, api.OK},
		{"the climber has lost", 1, []int{0, 2}, api.ErrProof},
		{"the other climber", 0, []int{0, 2}, api.OK},
		{"two have more points", 2, []int{1, 2}, api.ErrProof},
		{"too few winners", 1, []int{1}, api.ErrShape},
		{"too many winners", 1, []int{1, 2, 2}, api.ErrShape},
		{"who is not in the duel", 1, []int{1, 1}, api.ErrUnknown},
		{"who is not in the first duel", 1, []int{2, 2}, api.ErrUnknown},
		{"who is not there", 1, []int{1, 4}, api.ErrUnknown},
		{"a negative number", 1, []int{-1, 2}, api.ErrUnknown},
		{"the shape before a wrong winner", 1, []int{-1}, api.ErrShape},
		{"a wrong winner before the points", 2, []int{1, math.MaxInt}, api.ErrUnknown},
	} {
		want(t, "CheckTitle: "+row.what, result.CheckTitle(league(), row.climber, row.winners), row.e)
	}
	even := result.League{Climbers: names(2), Points: []int{4, 4}}
	want(t, "CheckTitle: as many points", result.CheckTitle(even, 1, nil), api.OK)
}

// P7.5: any set that proves that a climber cannot be first, and no others.
func TestCheckEliminated(t *testing.T) {
	for _, row := range []struct {
		what    string
		climber int
		set     []int
		e       api.Errno
	}{
		{"example 6", 2, []int{0, 1}, api.OK},
		{"a larger set that proves nothing", 2, []int{0, 1, 3}, api.ErrProof},
		{"a smaller set that proves nothing", 2, []int{0}, api.ErrProof},
		{"one climber", 3, []int{1}, api.OK},
		{"more climbers", 3, []int{0, 1, 2}, api.OK},
		{"a set that proves nothing", 3, []int{2}, api.ErrProof},
		{"who can be first", 0, []int{1, 2, 3}, api.ErrProof},
		{"nobody", 2, nil, api.ErrEmpty},
		{"who is not there", 2, []int{0, 1, 4}, api.ErrUnknown},
		{"a negative number", 2, []int{-1, 0, 1}, api.ErrUnknown},
		{"the wrong order", 2, []int{1, 0}, api.ErrOrder},
		{"the same one twice", 2, []int{0, 1, 1}, api.ErrOrder},
		{"the climber", 2, []int{0, 1, 2}, api.ErrState},
		{"the climber twice", 2, []int{0, 1, 2, 2}, api.ErrState},
		{"the climber in the wrong order", 0, []int{1, 0}, api.ErrOrder},
		{"who is not there in the wrong order", 2, []int{1, -1}, api.ErrUnknown},
		{"the first number with an error", 2, []int{2, 9}, api.ErrState},
		{"a wrong number before the proof", 2, []int{3, 4}, api.ErrUnknown},
	} {
		want(t, "CheckEliminated: "+row.what, result.CheckEliminated(league(), row.climber, row.set), row.e)
		want(t, "the model: "+row.what, modelEliminated(league(), row.climber, row.set), row.e)
	}
}

// P7.5: Eliminated is for eight climbers at most, whether the climber can be first or not; the other functions are not.
func TestLimitOfEliminated(t *testing.T) {
	for _, n := range []int{8, 9, 32} {
		l := result.League{Climbers: names(n), Points: slices.Repeat([]int{1}, n)}
		wantTitle(t, "all are equal", l, n-1, nil)
		l.Points[n-1] = 0
		wantTitle(t, "all others have more", l, n-1, []int{0})
		want(t, "CheckEliminated", result.CheckEliminated(l, n-1, []int{n - 2}), api.OK)
		l.Points[n-1] = 1
		l.Duels = []result.Duel{{A: n - 2, B: n - 3}}
		wantTitle(t, "a duel of two", l, n-1, []int{n - 3, n - 2})
		want(t, "CheckEliminated", result.CheckEliminated(l, n-1, []int{n - 3, n - 2}), api.OK)
		want(t, "CheckEliminated", result.CheckEliminated(l, n-2, []int{n - 3, n - 1}), api.ErrProof)
	}
	l := result.League{Climbers: names(9), Points: make([]int, 9)}
	_, e := result.Eliminated(l, 9)
	want(t, "the climber before the limit", e, api.ErrUnknown)
}

// P7.5: all functions of leagues against all winners, and against the model.
func TestLeaguesOfAnyKind(t *testing.T) {
	d := draw(6)
	for range 3000 {
		l := d.league(8, 9)
		climber := d.Intn(len(l.Climbers))
		var set []int
		if !modelCanBeFirst(l, climber) {
			set = modelSmallest(l, climber)
			want(t, "whether there is a set", set != nil, true)
		}
		wantTitle(t, "any league", l, climber, set)
	}
}

// P7.5: CheckTitle and CheckEliminated against the model, with winners and sets of any kind.
func TestProofsOfAnyKind(t *testing.T) {
	d := draw(7)
	errors := map[api.Errno]int{}
	for range 20000 {
		l := d.league(5, 5)
		climber := d.Intn(len(l.Climbers))
		var winners, set []int
		for _, duel := range l.Duels {
			winners = append(winners, []int{duel.A, duel.B}[d.Intn(2)])
		}
		if d.Intn(10) == 0 {
			winners = append(winners, d.Intn(5))
			winners = winners[d.Intn(2):]
		}
		for n := range l.Climbers {
			if n != climber && d.Intn(2) == 0 || d.Intn(30) == 0 {
				set = append(set, n)
			}
		}
		want(t, "CheckTitle", result.CheckTitle(l, climber, winners), modelTitle(l, climber, winners))
		e := result.CheckEliminated(l, climber, set)
		want(t, "CheckEliminated", e, modelEliminated(l, climber, set))
		errors[e]++
	}
	want(t, "how many different errors of sets", len(errors), 4)
}

// P7.5: leagues of any size, in which either winners or a set prove the answer.
func TestLargeLeagues(t *testing.T) {
	d := draw(8)
	for range 1000 {
		l := d.league(32, 64)
		for climber := range l.Climbers {
			set := modelBlocking(l, climber)
			winners, e := result.Title(l, climber)
			if set == nil {
				want(t, "the error of Title", e, api.OK)
				want(t, "winners by the model", modelTitle(l, climber, winners), api.OK)
				continue
			}
			want(t, "the error of Title", e, api.ErrInfeasible)
			want(t, "a set by the model", modelEliminated(l, climber, set), api.OK)
			want(t, "CheckEliminated", result.CheckEliminated(l, climber, set), api.OK)
		}
	}
}
