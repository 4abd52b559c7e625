package season_test

import (
	"math/rand"
	"reflect"
	"slices"
	"strconv"
	"strings"
	"testing"

	"crux/api"
	"crux/season"
)

// longName is the longest name, and tooLong is none.
var (
	longName = strings.Repeat("a", 24)
	tooLong  = strings.Repeat("a", 25)
)

// want reports a result that is not the wanted one. Nil and empty lists are equal, wherever they are.
func want(t *testing.T, what string, got, wanted any) {
	t.Helper()
	if !alike(reflect.ValueOf(got), reflect.ValueOf(wanted)) {
		t.Errorf("%s: got %+v, want %+v", what, got, wanted)
	}
}

func alike(a, b reflect.Value) bool {
	if a.Type() != b.Type() {
		return false
	}
	switch a.Kind() {
	case reflect.Slice:
		if a.Len() != b.Len() {
			return false
		}
		for i := range a.Len() {
			if !alike(a.Index(i), b.Index(i)) {
				return false
			}
		}
		return true
	case reflect.Struct:
		for i := range a.NumField() {
			if !alike(a.Field(i), b.Field(i)) {
				return false
			}
		}
		return true
	}
	return a.Equal(b)
}

// line returns a line of a contest.
func line(climber, nation string, place int) season.Line {
	return season.Line{Climber: climber, Nation: nation, Place: place}
}

// contest returns a contest.
func contest(name string, day int, lines ...season.Line) season.Contest {
	return season.Contest{Name: name, Day: day, Lines: lines}
}

// cup is the contest of example 1, with the table of this example.
func cup() season.Contest {
	return contest("cup", 10, line("ann", "A", 1), line("bea", "B", 2), line("cia", "A", 2), line("dot", "B", 0))
}

func table() []int {
	return []int{10, 6, 3}
}

// two are the contests of example 2.
func two() []season.Contest {
	return []season.Contest{cup(), contest("open", 30, line("bea", "B", 1), line("ann", "A", 2))}
}

// rule returns a rule.
func rule(window, best, team int) season.Rule {
	return season.Rule{Window: window, Best: best, Team: team}
}

// tour is the tour of example 4: x is 0, y is 1, z is 2.
func tour() season.Tour {
	return season.Tour{
		Hosts:  []season.Host{host("x", 3, 0, 20), host("y", 2, 5, 20), host("z", 4, 0, 4)},
		Travel: [][]int{{0, 2, 9}, {2, 0, 1}, {1, 3, 0}},
	}
}

// host returns a host.
func host(name string, days, from, to int) season.Host {
	return season.Host{Name: name, Days: days, From: from, To: to}
}

// square returns n rows of n numbers.
func square(n, number int) [][]int {
	var rows [][]int
	for range n {
		rows = append(rows, slices.Repeat([]int{number}, n))
	}
	return rows
}

// hosts returns n hosts of one day that may begin on any day.
func hosts(n int) []season.Host {
	var l []season.Host
	for _, name := range names(n) {
		l = append(l, host(name, 1, 0, api.MaxDay))
	}
	return l
}

// entry returns an entry of a rule.
func entry(climber, nation string) season.Entry {
	return season.Entry{Climber: climber, Nation: nation}
}

// list returns a rule of a quota.
func list(name string, count int, entries ...season.Entry) season.List {
	return season.List{Name: name, Count: count, Entries: entries}
}

// quota is the quota of example 5.
func quota() season.Quota {
	return season.Quota{
		Lists: []season.List{
			list("world", 2, entry("ann", "A"), entry("bea", "A"), entry("cia", "B"), entry("dot", "B")),
			list("cup", 2, entry("bea", "A"), entry("eva", "C"), entry("dot", "B")),
		},
		Cap: 1,
	}
}

// names returns n names.
func names(n int) []string {
	var l []string
	for i := range n {
		l = append(l, "c"+strconv.Itoa(i+1))
	}
	return l
}

// lines returns n lines with the places from 1 on.
func lines(n int) []season.Line {
	var l []season.Line
	for i, name := range names(n) {
		l = append(l, line(name, "A", i+1))
	}
	return l
}

// contests returns n contests on the days from 0 on without lines.
func contests(n int) []season.Contest {
	var l []season.Contest
	for i, name := range names(n) {
		l = append(l, contest(name, i))
	}
	return l
}

// entries returns n entries of the nation A.
func entries(n int) []season.Entry {
	var l []season.Entry
	for _, name := range names(n) {
		l = append(l, entry(name, "A"))
	}
	return l
}

// lists returns n rules without entries and places.
func lists(n int) []season.List {
	var l []season.List
	for _, name := range names(n) {
		l = append(l, list(name, 0))
	}
	return l
}

// drawing draws arguments.
type drawing struct {
	*rand.Rand
}

func draw(seed int64) drawing {
	return drawing{rand.New(rand.NewSource(seed))}
}

// from returns a number from the least to the greatest one.
func (d drawing) from(least, greatest int) int {
	return least + d.Intn(greatest-least+1)
}

// some returns some of the names of a list, in any order.
func (d drawing) some(l []string) []string {
	l = slices.Clone(l)
	d.Shuffle(len(l), func(i, j int) { l[i], l[j] = l[j], l[i] })
	return l[:d.Intn(len(l)+1)]
}

// nation returns the nation of a climber, which is nearly always the same.
func (d drawing) nation(climber string) string {
	if d.Intn(8) == 0 {
		return "D"
	}
	return string(rune('A' + (climber[len(climber)-1]-'0')%3))
}

// lines returns lines of up to n climbers, whose places are ranks, or of any kind.
func (d drawing) lines(n int) []season.Line {
	var l []season.Line
	isRanks := d.Intn(2) == 0
	place, next := 1, 1
	for _, name := range d.some(names(n)) {
		switch {
		case d.Intn(5) == 0:
			l = append(l, line(name, d.nation(name), 0))
			continue
		case !isRanks:
			place = d.from(0, 5)
		case d.Intn(3) > 0:
			place = next
		}
		next++
		l = append(l, line(name, d.nation(name), place))
	}
	d.Shuffle(len(l), func(i, j int) { l[i], l[j] = l[j], l[i] })
	return l
}

// contests returns up to m contests of up to n climbers on the days from 0 to 20.
func (d drawing) contests(m, n int) []season.Contest {
	var l []season.Contest
	for _, name := range d.some(names(m)) {
		l = append(l, contest(name, d.from(0, 20), d.lines(n)...))
	}
	return l
}

// table returns a table with points that are often equal.
func (d drawing) table() []int {
	var t []int
	points := d.from(0, 12)
	for range d.Intn(7) {
		t = append(t, points)
		points = max(0, points-d.Intn(4))
	}
	return t
}

func (d drawing) rule() season.Rule {
	return rule(d.from(1, 15), d.from(1, 4), d.from(1, 3))
}

// tour returns a tour of up to n hosts.
func (d drawing) tour(n int) season.Tour {
	t := season.Tour{Hosts: hosts(d.from(1, n))}
	late, far := d.from(1, 25), d.from(1, 6)
	for i := range t.Hosts {
		from := d.Intn(10)
		t.Hosts[i] = host(t.Hosts[i].Name, d.from(1, 3), from, from+d.Intn(late))
	}
	t.Travel = square(len(t.Hosts), 0)
	for _, row := range t.Travel {
		for i := range row {
			row[i] = d.Intn(far)
		}
	}
	return t
}

// quota returns a quota of up to m rules with up to n climbers.
func (d drawing) quota(m, n int) season.Quota {
	q := season.Quota{Cap: d.from(1, 3)}
	for _, name := range d.some(names(m)) {
		l := list(name, d.Intn(5))
		for _, climber := range d.some(names(n)) {
			l.Entries = append(l.Entries, entry(climber, d.nation(climber)))
		}
		q.Lists = append(q.Lists, l)
	}
	return q
}
