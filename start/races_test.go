package start_test

import (
	"math"
	"slices"
	"testing"

	"crux/api"
	"crux/start"
)

// P6.4: the errors of races, in their order.
func TestCheckRaces(t *testing.T) {
	ab := race("a", "b", 0)
	for _, row := range []struct {
		what string
		l    []start.Race
		e    api.Errno
	}{
		{"no races", nil, api.ErrShape},
		{"one race", []start.Race{ab}, api.OK},
		{"three races", open(3), api.ErrShape},
		{"six races", open(6), api.ErrShape},
		{"three races of no names", []start.Race{race("1", "1", 9), ab, ab}, api.ErrShape},
		{"32 races", open(32), api.OK},
		{"33 races", open(33), api.ErrShape},
		{"64 races", open(64), api.ErrShape},
		{"all winners", []start.Race{ab, race("c", "d", 1), race("e", "f", 2), race("g", "h", 3)}, api.OK},
		{"all that are decided from the beginning", []start.Race{race("", "", 3), race("c", "", 1), race("", "d", 2), race("", "", 3)}, api.OK},
		{"long names", []start.Race{race(longName, "b", 0)}, api.OK},
		{"no name as A", []start.Race{race("1", "1", 9)}, api.ErrName},
		{"no name as B", []start.Race{race("a", "a b", -1)}, api.ErrName},
		{"no name against nobody", []start.Race{race("", tooLong, 0)}, api.ErrName},
		{"no name behind a race", []start.Race{ab, race("a", "_", 0)}, api.ErrName},
		{"an error in front of no name", []start.Race{race("a", "b", 4), race("1", "", 0)}, api.ErrRange},
		{"A against A", []start.Race{race("a", "a", 4)}, api.ErrTwice},
		{"A there before as A", []start.Race{ab, race("a", "c", 4)}, api.ErrTwice},
		{"A there before as B", []start.Race{ab, race("b", "", 0)}, api.ErrTwice},
		{"B there before as A", []start.Race{ab, race("c", "a", 4)}, api.ErrTwice},
		{"B there before as B", []start.Race{ab, race("", "b", 0)}, api.ErrTwice},
		{"one there before two races", []start.Race{ab, race("c", "d", 0), race("e", "f", 0), race("g", "b", 0)}, api.ErrTwice},
		{"a winner below 0", []start.Race{race("a", "b", -1)}, api.ErrRange},
		{"a winner above 3", []start.Race{race("a", "b", 4)}, api.ErrRange},
		{"a winner far away against nobody", []start.Race{race("a", "", math.MaxInt)}, api.ErrRange},
		{"the least winner of nobody", []start.Race{race("", "", math.MinInt)}, api.ErrRange},
		{"the zero value", make([]start.Race, 1), api.ErrState},
		{"A against nobody, open", []start.Race{race("a", "", 0)}, api.ErrState},
		{"A against nobody, who wins", []start.Race{race("a", "", 2)}, api.ErrState},
		{"A against nobody, both out", []start.Race{race("a", "", 3)}, api.ErrState},
		{"nobody against B, open", []start.Race{race("", "b", 0)}, api.ErrState},
		{"nobody against B, and wins", []start.Race{race("", "b", 1)}, api.ErrState},
		{"nobody against B, both out", []start.Race{race("", "b", 3)}, api.ErrState},
		{"nobody wins as A", []start.Race{race("", "", 1)}, api.ErrState},
		{"nobody wins as B", []start.Race{race("", "", 2)}, api.ErrState},
		{"a state in front of a name twice", []start.Race{race("a", "", 0), race("a", "", 0)}, api.ErrState},
	} {
		want(t, row.what, start.CheckRaces(row.l), row.e)
		want(t, row.what+" by the model", modelCheckRaces(row.l), row.e)
	}
}

// P6.4: who wins a race is in the slot of the next round; of a race that both have lost nobody is.
func TestNext(t *testing.T) {
	for _, row := range []struct {
		what string
		l    []start.Race
		next []start.Race
		e    api.Errno
	}{
		{"A and A", decided(open(2), 1, 1), []start.Race{race("c1", "c3", 0)}, api.OK},
		{"A and B", decided(open(2), 1, 2), []start.Race{race("c1", "c4", 0)}, api.OK},
		{"B and A", decided(open(2), 2, 1), []start.Race{race("c2", "c3", 0)}, api.OK},
		{"nobody and A", decided(open(2), 3, 1), []start.Race{race("", "c3", 2)}, api.OK},
		{"B and nobody", decided(open(2), 2, 3), []start.Race{race("c2", "", 1)}, api.OK},
		{"nobody and nobody", decided(open(2), 3, 3), []start.Race{race("", "", 3)}, api.OK},
		{"those without a race", []start.Race{race("", "b", 2), race("", "", 3)}, []start.Race{race("b", "", 1)}, api.OK},
		{"four races", decided(open(4), 1, 2, 3, 2), []start.Race{race("c1", "c4", 0), race("", "c8", 2)}, api.OK},
		{"races with an error", make([]start.Race, 3), nil, api.ErrShape},
		{"one race with an error", make([]start.Race, 1), nil, api.ErrState},
		{"one race", decided(open(1), 1), nil, api.ErrOver},
		{"one race that is open", open(1), nil, api.ErrOver},
		{"the first one open", decided(open(2), 0, 1), nil, api.ErrOpen},
		{"the last one open", decided(open(4), 1, 2, 3), nil, api.ErrOpen},
	} {
		next, e := start.Next(row.l)
		want(t, row.what, next, row.next)
		want(t, row.what+": the error", e, row.e)
	}
}

// P6.4: those who have lost alone race in the small final.
func TestSmall(t *testing.T) {
	for _, row := range []struct {
		what  string
		l     []start.Race
		small start.Race
		e     api.Errno
	}{
		{"A and A win", decided(open(2), 1, 1), race("c2", "c4", 0), api.OK},
		{"A and B win", decided(open(2), 1, 2), race("c2", "c3", 0), api.OK},
		{"B and A win", decided(open(2), 2, 1), race("c1", "c4", 0), api.OK},
		{"both lose the first one", decided(open(2), 3, 1), race("", "c4", 2), api.OK},
		{"both lose the second one", decided(open(2), 2, 3), race("c1", "", 1), api.OK},
		{"all lose", decided(open(2), 3, 3), race("", "", 3), api.OK},
		{"one against nobody", []start.Race{race("a", "", 1), race("b", "c", 1)}, race("", "c", 2), api.OK},
		{"nobody against one", []start.Race{race("a", "b", 2), race("", "c", 2)}, race("a", "", 1), api.OK},
		{"nobody at all", []start.Race{race("", "", 3), race("", "", 3)}, race("", "", 3), api.OK},
		{"races with an error", make([]start.Race, 4), start.Race{}, api.ErrState},
		{"no races", nil, start.Race{}, api.ErrShape},
		{"one race", open(1), start.Race{}, api.ErrShape},
		{"four races", open(4), start.Race{}, api.ErrShape},
		{"the first one open", decided(open(2), 0, 1), start.Race{}, api.ErrOpen},
		{"the second one open", decided(open(2), 3), start.Race{}, api.ErrOpen},
	} {
		small, e := start.Small(row.l)
		want(t, row.what, small, row.small)
		want(t, row.what+": the error", e, row.e)
	}
}

// P6.4: random races, most of them without an error.
func TestRacesByTheModel(t *testing.T) {
	d := draw(4)
	for range 20000 {
		l := open([]int{1, 2, 2, 2, 4, 4, 3}[d.Intn(7)])
		for i := range l {
			l[i].Winner = d.Intn(5 - d.Intn(2))
			if d.Intn(4) == 0 {
				l[i].A = []string{"", "", "", "c1", "c4", "x", "1"}[d.Intn(7)]
				l[i].Winner = modelFirst(l[i].A, l[i].B)
			}
			if d.Intn(4) == 0 {
				l[i].B = []string{"", "", "", "c2", "c3", "y", "2"}[d.Intn(7)]
				l[i].Winner = modelFirst(l[i].A, l[i].B)
			}
			if d.Intn(20) == 0 {
				l[i].Winner = d.Intn(6) - 1
			}
		}
		want(t, "CheckRaces", start.CheckRaces(l), modelCheckRaces(l))
		next, e := start.Next(l)
		wanted, wantedError := modelNext(l)
		want(t, "Next", next, wanted)
		want(t, "its error", e, wantedError)
		small, e := start.Small(l)
		race, wantedError := modelSmall(l)
		want(t, "Small", small, race)
		want(t, "its error", e, wantedError)
	}
}

// P6.4: the chapter's example 6, and the other duels.
func TestDuel(t *testing.T) {
	const end = api.MaxTime
	for _, row := range []struct {
		what   string
		a, b   start.Run
		winner int
		e      api.Errno
	}{
		{"a false start", start.Run{Reaction: 99, Time: 1}, start.Run{Reaction: 150, Time: 9000}, 2, api.OK},
		{"a false start against a fall", start.Run{Reaction: 99, Time: 1}, start.Run{Reaction: 150}, 2, api.OK},
		{"a false start and a fall", start.Run{Reaction: 99}, start.Run{Reaction: 150}, 2, api.OK},
		{"a false start of b", start.Run{Reaction: 100}, start.Run{Reaction: 0, Time: 1}, 1, api.OK},
		{"two false starts", start.Run{Reaction: 99, Time: 1}, start.Run{Reaction: 98, Time: 2}, 3, api.OK},
		{"two false starts and falls", start.Run{}, start.Run{}, 3, api.OK},
		{"the least reactions", start.Run{Reaction: 100, Time: 2}, start.Run{Reaction: 100, Time: 1}, 2, api.OK},
		{"the same times", start.Run{Reaction: 120, Time: 7000}, start.Run{Reaction: 130, Time: 7000}, 1, api.OK},
		{"the same times, b faster", start.Run{Reaction: 131, Time: 7000}, start.Run{Reaction: 130, Time: 7000}, 2, api.OK},
		{"a fall", start.Run{Reaction: 120}, start.Run{Reaction: 130, Time: 9000}, 2, api.OK},
		{"a fall of b", start.Run{Reaction: 120, Time: end}, start.Run{Reaction: 100}, 1, api.OK},
		{"two falls", start.Run{Reaction: 120}, start.Run{Reaction: 130}, 0, api.OK},
		{"the same runs", start.Run{Reaction: 120, Time: 7000}, start.Run{Reaction: 120, Time: 7000}, 0, api.OK},
		{"a time against a reaction", start.Run{Reaction: 200, Time: 6999}, start.Run{Reaction: 100, Time: 7000}, 1, api.OK},
		{"b's time against a reaction", start.Run{Reaction: 100, Time: 7000}, start.Run{Reaction: 200, Time: 6999}, 2, api.OK},
		{"the greatest ones", start.Run{Reaction: end, Time: end}, start.Run{Reaction: end, Time: end}, 0, api.OK},
		{"a reaction below 0", start.Run{Reaction: -1, Time: 1}, start.Run{}, 0, api.ErrRange},
		{"a reaction that is too long", start.Run{Reaction: end + 1}, start.Run{Reaction: 100, Time: 5}, 0, api.ErrRange},
		{"a time below 0", start.Run{Reaction: 100, Time: -1}, start.Run{Reaction: 100, Time: 5}, 0, api.ErrRange},
		{"a time that is too long", start.Run{Reaction: 100, Time: end + 1}, start.Run{Reaction: 99, Time: 5}, 0, api.ErrRange},
		{"b's reaction below 0", start.Run{Reaction: 99, Time: 1}, start.Run{Reaction: -1, Time: 1}, 0, api.ErrRange},
		{"b's reaction that is too long", start.Run{Reaction: 100, Time: 1}, start.Run{Reaction: math.MaxInt, Time: 1}, 0, api.ErrRange},
		{"b's time below 0", start.Run{Reaction: 100, Time: 1}, start.Run{Reaction: 100, Time: math.MinInt}, 0, api.ErrRange},
		{"b's time that is too long", start.Run{Reaction: 100, Time: 1}, start.Run{Reaction: 99, Time: end + 1}, 0, api.ErrRange},
	} {
		winner, e := start.Duel(row.a, row.b)
		want(t, row.what, winner, row.winner)
		want(t, row.what+": the error", e, row.e)
		model, e := modelDuel(row.a, row.b)
		want(t, row.what+" by the model", model, row.winner)
		want(t, row.what+": the error of the model", e, row.e)
	}
}

// runs are runs of all kinds.
func runs() []start.Run {
	var l []start.Run
	for _, reaction := range []int{0, 99, 100, 101, 500} {
		for _, time := range []int{0, 1, 7000, 7001} {
			l = append(l, start.Run{Reaction: reaction, Time: time})
		}
	}
	return append(l, start.Run{Reaction: -1}, start.Run{Reaction: 100, Time: -1})
}

// P6.4: all duels of runs of all kinds.
func TestDuelsByTheModel(t *testing.T) {
	for _, a := range runs() {
		for _, b := range runs() {
			winner, e := start.Duel(a, b)
			wanted, wantedError := modelDuel(a, b)
			want(t, "Duel", winner, wanted)
			want(t, "its error", e, wantedError)
		}
	}
}

// P6.4: the places, also where nobody has won, and of the largest bracket.
func TestPlaces(t *testing.T) {
	for _, row := range []struct {
		what   string
		rounds [][]start.Race
		places []start.Place
	}{
		{"one climber", [][]start.Race{{race("a", "", 1)}}, []start.Place{{Name: "a", Place: 1}}},
		{"one climber as B", [][]start.Race{{race("", "b", 2)}}, []start.Place{{Name: "b", Place: 1}}},
		{"nobody", [][]start.Race{{race("", "", 3)}}, nil},
		{"A wins", [][]start.Race{{race("a", "b", 1)}}, []start.Place{{Name: "a", Place: 1}, {Name: "b", Place: 2}}},
		{"B wins", [][]start.Race{{race("a", "b", 2)}}, []start.Place{{Name: "b", Place: 1}, {Name: "a", Place: 2}}},
		{"both out", [][]start.Race{{race("a", "b", 3)}}, []start.Place{{Name: "a", Place: 2}, {Name: "b", Place: 2}}},
		{
			"both out before the final", [][]start.Race{{race("a", "b", 3), race("c", "d", 2)}, {race("", "d", 2)}},
			[]start.Place{{Name: "d", Place: 1}, {Name: "a", Place: 3}, {Name: "b", Place: 3}, {Name: "c", Place: 3}},
		},
		{
			"both out beside a bye", [][]start.Race{{race("a", "b", 3), race("", "d", 2)}, {race("", "d", 2)}},
			[]start.Place{{Name: "d", Place: 1}, {Name: "a", Place: 3}, {Name: "b", Place: 3}},
		},
	} {
		places, e := start.Places(row.rounds)
		want(t, row.what, places, row.places)
		want(t, row.what+": the error", e, api.OK)
	}
	rounds := [][]start.Race{decided(open(32), slices.Repeat([]int{1}, 32)...)}
	for len(rounds) < 6 {
		next, _ := start.Next(rounds[len(rounds)-1])
		rounds = append(rounds, decided(next, slices.Repeat([]int{1}, 32)...))
	}
	places, e := start.Places(rounds)
	want(t, "the error of the largest bracket", e, api.OK)
	want(t, "how many places", len(places), 64)
	want(t, "some places", []start.Place{places[0], places[1], places[2], places[3], places[63]}, []start.Place{
		{Name: "c1", Place: 1}, {Name: "c33", Place: 2}, {Name: "c17", Place: 3}, {Name: "c49", Place: 3}, {Name: "c64", Place: 33},
	})
}

// changed returns the rounds of the chapter with one race that is another one.
func changed(round, number int, r start.Race) [][]start.Race {
	rounds := five()
	rounds[round][number] = r
	return rounds
}

// P6.4: the errors of rounds, in their order.
func TestErrorsOfPlaces(t *testing.T) {
	var seven [][]start.Race
	for range 7 {
		seven = append(seven, []start.Race{race("a", "", 1)})
	}
	for _, row := range []struct {
		what   string
		rounds [][]start.Race
		e      api.Errno
	}{
		{"the rounds of the chapter", five(), api.OK},
		{"no rounds", nil, api.ErrEmpty},
		{"seven rounds", seven, api.ErrMany},
		{"seven rounds without races", make([][]start.Race, 7), api.ErrMany},
		{"six rounds of one race", seven[1:], api.ErrShape},
		{"a round without races", make([][]start.Race, 1), api.ErrShape},
		{"an error in the first round", changed(0, 1, race("d", "d", 9)), api.ErrTwice},
		{"an error in the second round", changed(1, 1, race("1", "c", 2)), api.ErrName},
		{"an error in the last round", changed(2, 0, race("a", "c", 4)), api.ErrRange},
		{"a state in the second round", changed(1, 0, race("a", "", 0)), api.ErrState},
		{"an error in an open bracket", [][]start.Race{open(2), make([]start.Race, 1)}, api.ErrState},
		{"as many races as before", [][]start.Race{open(2), open(2)}, api.ErrShape},
		{"a round that is left out", [][]start.Race{five()[0], five()[2]}, api.ErrShape},
		{"rounds the other way", [][]start.Race{five()[2], five()[1]}, api.ErrShape},
		{"a race behind the final", append(five(), five()[2]), api.ErrShape},
		{"an open race in the first round", changed(0, 1, race("d", "e", 0)), api.ErrOpen},
		{"an open race in the second round", changed(1, 1, race("b", "c", 0)), api.ErrOpen},
		{"an open race ahead of others", [][]start.Race{open(2), {race("x", "y", 1)}}, api.ErrOpen},
		{"the loser in the next round", changed(1, 0, race("a", "d", 1)), api.ErrConflict},
		{"another climber in the next round", changed(1, 0, race("x", "e", 2)), api.ErrConflict},
		{"another one who loses", changed(1, 1, race("x", "c", 2)), api.ErrConflict},
		{"nobody in the next round", changed(1, 1, race("", "c", 2)), api.ErrConflict},
		{"races turned round", changed(2, 0, race("c", "a", 1)), api.ErrConflict},
		{"a conflict ahead of an error", [][]start.Race{five()[0], {race("x", "e", 2), race("b", "c", 2)}, make([]start.Race, 1)}, api.ErrConflict},
		{"the first round alone", five()[:1], api.ErrOver},
		{"the first round alone, open", [][]start.Race{open(4)}, api.ErrOver},
		{"two rounds of three", five()[:2], api.ErrOver},
		{"a final that is open", changed(2, 0, race("a", "c", 0)), api.ErrOpen},
		{"one race that is open", [][]start.Race{open(1)}, api.ErrOpen},
	} {
		places, e := start.Places(row.rounds)
		want(t, row.what, e, row.e)
		want(t, row.what+": places beside an error", e == api.OK || places == nil, true)
		_, e = modelPlaces(row.rounds)
		want(t, row.what+" by the model", e, row.e)
	}
}

// P6.4: the places of random brackets, some of them with an error.
func TestPlacesByTheModel(t *testing.T) {
	d := draw(5)
	for range 3000 {
		rounds := d.bracket(t, 20)
		if d.Intn(2) == 0 {
			l := rounds[d.Intn(len(rounds))]
			r := &l[d.Intn(len(l))]
			switch d.Intn(5) {
			case 0:
				r.Winner = d.Intn(5)
			case 1:
				r.A, r.B = r.B, r.A
			case 2:
				r.A = []string{"", "x", "c1", "1"}[d.Intn(4)]
			case 3:
				r.B = []string{"", "x", "c2", "1"}[d.Intn(4)]
			case 4:
				rounds = rounds[d.Intn(len(rounds)):]
			}
		}
		places, e := start.Places(rounds)
		wanted, wantedError := modelPlaces(rounds)
		want(t, "Places", places, wanted)
		want(t, "its error", e, wantedError)
	}
}
