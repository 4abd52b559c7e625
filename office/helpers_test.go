package office_test

import (
	"math/rand"
	"reflect"
	"slices"
	"strconv"
	"strings"
	"testing"

	"crux/api"
	"crux/office"
)

// longName is the longest name, and tooLong is none.
var (
	longName = strings.Repeat("a", 24)
	tooLong  = strings.Repeat("a", 25)
)

// want reports a result that is not the wanted one. Nil and empty lists are equal, wherever they are.
func want(t *testing.T, what string, got, wanted any) {
	t.Helper()
	if !alike(reflect.ValueOf(got), reflect.ValueOf(wanted)) {
		t.Errorf("%s: got %+v, want %+v", what, got, wanted)
	}
}

func alike(a, b reflect.Value) bool {
	if a.Type() != b.Type() {
		return false
	}
	switch a.Kind() {
	case reflect.Slice:
		if a.Len() != b.Len() {
			return false
		}
		for i := range a.Len() {
			if !alike(a.Index(i), b.Index(i)) {
				return false
			}
		}
		return true
	case reflect.Struct:
		for i := range a.NumField() {
			if !alike(a.Field(i), b.Field(i)) {
				return false
			}
		}
		return true
	}
	return a.Equal(b)
}

// same reports whether two values are alike.
func same(a, b any) bool {
	return alike(reflect.ValueOf(a), reflect.ValueOf(b))
}

// gives returns what examines a result and its error: the result is the wanted one, and there is no error.
func gives(t *testing.T, what string, wanted any) func(got any, e api.Errno) {
	t.Helper()
	return func(got any, e api.Errno) {
		t.Helper()
		want(t, what, got, wanted)
		want(t, "the error: "+what, e, api.OK)
	}
}

// fails returns what examines a result and its error: the error is the wanted one, and beside it the result is a zero value.
func fails(t *testing.T, what string, wanted api.Errno) func(got any, e api.Errno) {
	t.Helper()
	return func(got any, e api.Errno) {
		t.Helper()
		want(t, "the error: "+what, e, wanted)
		if wanted != api.OK {
			want(t, "the result beside an error: "+what, got, reflect.Zero(reflect.TypeOf(got)).Interface())
		}
	}
}

// sure returns a result that has no error.
func sure[T any](result T, e api.Errno) T {
	if e != api.OK {
		panic("an error: " + strconv.Itoa(int(e)))
	}
	return result
}

// has returns a result with values.
func has(climber string, values ...int) api.Result {
	return api.Result{Climber: climber, Values: values}
}

// is returns a result with a state.
func is(climber, state string) api.Result {
	return api.Result{Climber: climber, State: state}
}

// sheet returns an open sheet of the round final with so many values.
func sheet(values int, l ...api.Result) office.Sheet {
	return office.Sheet{Round: "final", Values: values, State: "open", Results: l}
}

func entry(desk string, number, clock int, s office.Sheet) office.Entry {
	return office.Entry{Desk: desk, Number: number, Clock: clock, Sheet: s}
}

// at returns an entry with a sheet of its own for the round final.
func at(desk string, number, clock int) office.Entry {
	return entry(desk, number, clock, sheet(1, has("ann", 100*number+clock)))
}

func archive(l ...office.Entry) office.Archive {
	return office.Archive{Entries: l}
}

func mark(desk string, number int) office.Mark {
	return office.Mark{Desk: desk, Number: number}
}

// The kinds of events.

func opened(n int, round string, values int) api.Event {
	return api.Event{Number: n, Kind: "open", Names: []string{round}, Values: []int{values}}
}

func posted(n int, round, climber, text string) api.Event {
	return api.Event{Number: n, Kind: "post", Names: []string{round, climber}, Text: text}
}

func dropped(n int, round, climber string) api.Event {
	return api.Event{Number: n, Kind: "drop", Names: []string{round, climber}}
}

func closed(n int, round string) api.Event {
	return api.Event{Number: n, Kind: "close", Names: []string{round}}
}

func reopened(n int, round string) api.Event {
	return api.Event{Number: n, Kind: "reopen", Names: []string{round}}
}

func undone(n int) api.Event {
	return api.Event{Number: n, Kind: "undo"}
}

// four are the events of the examples.
func four() []api.Event {
	return []api.Event{opened(1, "final", 2), posted(2, "final", "ann", "34,1"), posted(3, "final", "ben", "34,0"), posted(4, "final", "cat", "dns")}
}

// lines are the lines of the events of the examples.
var lines = []string{"open final 2", "post final ann 34,1", "post final ben 34,0", "post final cat dns"}

// names returns n names.
func names(n int) []string {
	var l []string
	for i := range n {
		l = append(l, "c"+strconv.Itoa(i+1))
	}
	return l
}

// many returns the results of n climbers, with one value.
func many(n int) []api.Result {
	var l []api.Result
	for _, name := range names(n) {
		l = append(l, has(name, 1))
	}
	return l
}

// long returns n entries of a desk.
func long(desk string, n int) []office.Entry {
	var l []office.Entry
	for i := range n {
		l = append(l, at(desk, i+1, i+1))
	}
	return l
}

// turns returns n events that are accepted: a result is posted and taken away, again and again.
func turns(n int) []api.Event {
	l := []api.Event{opened(1, "final", 1)}
	for i := 2; i <= n; i++ {
		if i%2 == 0 {
			l = append(l, posted(i, "final", "ann", strconv.Itoa(i)))
		} else {
			l = append(l, dropped(i, "final", "ann"))
		}
	}
	return l[:n]
}

// drawing draws arguments.
type drawing struct {
	*rand.Rand
}

func draw(seed int64) drawing {
	return drawing{rand.New(rand.NewSource(seed))}
}

func (d drawing) oneOf(l ...string) string {
	return l[d.Intn(len(l))]
}

// some returns some elements of a list, in any order.
func some[T any](d drawing, l []T) []T {
	l = slices.Clone(l)
	d.Shuffle(len(l), func(i, j int) { l[i], l[j] = l[j], l[i] })
	return l[:d.Intn(len(l)+1)]
}

func (d drawing) state() string {
	return d.oneOf("dns", "dnf", "dsq")
}

// sheet returns a sheet of few climbers, whose results are often equal.
func (d drawing) sheet() office.Sheet {
	s := office.Sheet{Round: d.oneOf("final", "heat", "semi"), Values: 1 + d.Intn(3), State: d.oneOf("open", "closed")}
	for _, name := range some(d, names(6)) {
		r := is(name, d.state())
		if d.Intn(4) > 0 {
			r = has(name)
			for range s.Values {
				r.Values = append(r.Values, d.Intn(4)-1)
			}
		}
		s.Results = append(s.Results, r)
	}
	return s
}

// archive returns an archive of few desks, with gaps, and with clocks that are equal at several desks.
func (d drawing) archive() office.Archive {
	return d.part(d.whole())
}

// whole returns an archive without gaps.
func (d drawing) whole() office.Archive {
	var a office.Archive
	for _, desk := range []string{"a", "gym", "gym2", "hall"} {
		clock := 0
		for i := range d.Intn(6) {
			clock += 1 + d.Intn(3)
			a.Entries = append(a.Entries, entry(desk, i+1, clock, d.sheet()))
		}
	}
	return a
}

// part returns an archive with some of the entries of another one.
func (d drawing) part(a office.Archive) office.Archive {
	var b office.Archive
	most := 1 + d.Intn(5)
	for _, x := range a.Entries {
		if d.Intn(most) < 2 {
			b.Entries = append(b.Entries, x)
		}
	}
	return b
}

func (d drawing) round() string {
	return d.oneOf("final", "final", "final", "final", "semi", "none")
}

func (d drawing) climber() string {
	return d.oneOf("ann", "ben", "cat")
}

func (d drawing) text() string {
	return d.oneOf("1", "1", "0", "-1", "2", "1,2", "1,2", "0,-3", "dns", "dnf", "", "01", "-0", "1,", "dsq ", "1 2")
}

// event returns an event that is often accepted after few others.
func (d drawing) event(number int) api.Event {
	switch d.Intn(12) {
	case 0, 1:
		return opened(number, d.round(), d.Intn(3))
	case 2, 3:
		return dropped(number, d.round(), d.climber())
	case 4:
		return closed(number, d.round())
	case 5, 6:
		return reopened(number, d.round())
	case 7:
		return undone(number)
	}
	return posted(number, d.round(), d.climber(), d.text())
}

// events returns up to n events that are accepted.
func (d drawing) events(n int) []api.Event {
	var l []api.Event
	for range d.Intn(2*n + 1) {
		if e := d.event(len(l) + 1); len(l) < n && modelAccepts(l, e) == api.OK {
			l = append(l, e)
		}
	}
	return l
}

// log returns the log of events.
func log(l []api.Event) string {
	var text strings.Builder
	for _, e := range l {
		text.WriteString(modelRecord(e))
	}
	return text.String()
}

// doing returns a session that has done lines.
func doing(t *testing.T, l ...string) *office.Session {
	t.Helper()
	s := office.New()
	for _, line := range l {
		_, e := s.Do(line)
		want(t, "the error of "+line, e, api.OK)
	}
	return s
}

// lineOf returns the line of the console with which an event is done.
func lineOf(e api.Event) string {
	_, line, _ := strings.Cut(modelBody(e), " ")
	return line
}
