package office_test

import (
	"math"
	"reflect"
	"slices"
	"strings"
	"testing"

	"crux/api"
	"crux/office"
)

// arguments are those of all functions.
type arguments struct {
	sheet  office.Sheet
	entry  office.Entry
	a, b   office.Archive
	desk   string
	round  string
	vector []office.Mark
	event  api.Event
	events []api.Event
	log    string
	lines  []string
}

// answer is what a function returns: its results, and its error.
type answer struct {
	what    string
	results []any
	e       api.Errno
}

// protocol is what a session has answered, and what it has at last.
type protocol struct {
	Answers []string
	Errors  []api.Errno
	Events  []api.Event
	Log     string
}

func protocolOf(s *office.Session, lines []string) protocol {
	var p protocol
	for _, line := range lines {
		answer, e := s.Do(line)
		p.Answers, p.Errors = append(p.Answers, answer), append(p.Errors, e)
	}
	p.Events, p.Log = s.Events(), s.Log()
	return p
}

// answers returns what all functions return.
func answers(x arguments) []answer {
	ranks, ranksError := office.Ranks(x.sheet)
	posted, postError := office.Post(x.a, x.desk, x.sheet)
	merged, mergeError := office.Merge(x.a, x.b)
	shown, shownError := office.Shown(x.a, x.round)
	rounds, roundsError := office.Rounds(x.a)
	history, historyError := office.History(x.a, x.round)
	vector, vectorError := office.Vector(x.a)
	gaps, gapsError := office.Gaps(x.a)
	lacking, lackingError := office.Lacking(x.a, x.vector)
	book, place, replayError := office.Replay(x.events)
	published, publishedError := office.Published(x.events, x.desk)
	longer, appendError := office.Append(x.log, x.event)
	recovered, length, recoverError := office.Recover(x.log)
	loaded, loadError := office.Load(x.log)
	return []answer{
		{"CheckSheet", nil, office.CheckSheet(x.sheet)},
		{"Ranks", []any{ranks}, ranksError},
		{"CheckEntry", nil, office.CheckEntry(x.entry)},
		{"CheckArchive", nil, office.CheckArchive(x.a)},
		{"Post", []any{posted}, postError},
		{"Merge", []any{merged}, mergeError},
		{"Shown", []any{shown}, shownError},
		{"Rounds", []any{rounds}, roundsError},
		{"History", []any{history}, historyError},
		{"Vector", []any{vector}, vectorError},
		{"Gaps", []any{gaps}, gapsError},
		{"Lacking", []any{lacking}, lackingError},
		{"CheckEvent", nil, office.CheckEvent(x.event)},
		{"Replay", []any{book, place}, replayError},
		{"Accepts", nil, office.Accepts(x.events, x.event)},
		{"Published", []any{published}, publishedError},
		{"Append", []any{longer}, appendError},
		{"Recover", []any{recovered, length}, recoverError},
		{"New", []any{protocolOf(office.New(), x.lines)}, api.OK},
		{"Load", []any{loaded == nil, protocolOf(loaded, x.lines)}, loadError},
	}
}

// modelAnswers returns what all functions of the model return.
func modelAnswers(x arguments) []answer {
	ranks, ranksError := modelRanks(x.sheet)
	posted, postError := modelPost(x.a, x.desk, x.sheet)
	merged, mergeError := modelMerge(x.a, x.b)
	shown, shownError := modelShown(x.a, x.round)
	rounds, roundsError := modelRounds(x.a)
	history, historyError := modelHistory(x.a, x.round)
	vector, vectorError := modelVector(x.a)
	gaps, gapsError := modelGaps(x.a)
	lacking, lackingError := modelLacking(x.a, x.vector)
	book, place, replayError := modelReplay(x.events)
	published, publishedError := modelPublished(x.events, x.desk)
	longer, appendError := modelAppend(x.log, x.event)
	recovered, length, recoverError := modelRecover(x.log)
	loaded, loadError := modelLoad(x.log)
	return []answer{
		{"CheckSheet", nil, modelSheet(x.sheet)},
		{"Ranks", []any{ranks}, ranksError},
		{"CheckEntry", nil, modelEntry(x.entry)},
		{"CheckArchive", nil, modelArchive(x.a)},
		{"Post", []any{posted}, postError},
		{"Merge", []any{merged}, mergeError},
		{"Shown", []any{shown}, shownError},
		{"Rounds", []any{rounds}, roundsError},
		{"History", []any{history}, historyError},
		{"Vector", []any{vector}, vectorError},
		{"Gaps", []any{gaps}, gapsError},
		{"Lacking", []any{lacking}, lackingError},
		{"CheckEvent", nil, modelEvent(x.event)},
		{"Replay", []any{book, place}, replayError},
		{"Accepts", nil, modelAccepts(x.events, x.event)},
		{"Published", []any{published}, publishedError},
		{"Append", []any{longer}, appendError},
		{"Recover", []any{recovered, length}, recoverError},
		{"New", []any{modelProtocol(nil, x.lines, true)}, api.OK},
		{"Load", []any{loadError != api.OK, modelProtocol(loaded, x.lines, loadError == api.OK)}, loadError},
	}
}

// modelProtocol returns the protocol of a session with events, or of none.
func modelProtocol(l []api.Event, lines []string, isThere bool) protocol {
	var p protocol
	for _, line := range lines {
		answer, e := "", api.ErrState
		if isThere {
			l, answer, e = modelDo(l, line)
		}
		p.Answers, p.Errors = append(p.Answers, answer), append(p.Errors, e)
	}
	p.Events, p.Log = l, log(l)
	return p
}

// anything draws arguments of any form.
type anything struct {
	drawing
}

func (d anything) number() int {
	l := []int{0, 1, 2, 3, 9, 16, 17, 64, 65, 999, 1000, 1001, office.MaxClock, office.MaxClock + 1, api.MaxNumber, api.MaxNumber + 1, -api.MaxNumber - 1, -1, math.MaxInt, math.MinInt}
	return l[d.Intn(len(l))]
}

func (d anything) word() string {
	return d.oneOf("", "open", "closed", "post", "undo", "dns", "dsq", "final", "ann", "c1", "a b", "1", "1,2", "|", "\n", "\xff", strings.Repeat("a", 5000))
}

func (d anything) result() api.Result {
	r := api.Result{Climber: d.word(), State: d.oneOf("", "", d.state(), d.word())}
	for range d.Intn(4) {
		r.Values = append(r.Values, d.number())
	}
	return r
}

// mayBe returns a value, or seldom one of any form.
func mayBe[T any](d anything, x T, other func() T) T {
	if d.Intn(15) == 0 {
		return other()
	}
	return x
}

// spoiled returns a list in which something of any form may stand.
func spoiled[T any](d anything, l []T, other func() T) []T {
	l = slices.Clone(l)
	if d.Intn(12) == 0 && len(l) > 0 {
		l[d.Intn(len(l))] = other()
	}
	if d.Intn(20) == 0 {
		l = append(l, other())
	}
	if d.Intn(20) == 0 && len(l) > 1 {
		i := d.Intn(len(l))
		l[0], l[i] = l[i], l[0]
	}
	if d.Intn(300) == 0 {
		return slices.Repeat([]T{other()}, d.Intn(1100))
	}
	return l
}

func (d anything) anySheet() office.Sheet {
	s := d.sheet()
	s.Round, s.Values, s.State = mayBe(d, s.Round, d.word), mayBe(d, s.Values, d.number), mayBe(d, s.State, d.word)
	s.Results = spoiled(d, s.Results, d.result)
	return s
}

func (d anything) anyEntry() office.Entry {
	return entry(mayBe(d, d.oneOf("gym", "hall", "z"), d.word), mayBe(d, 1+d.Intn(9), d.number), mayBe(d, 1+d.Intn(9), d.number), d.anySheet())
}

func (d anything) anyMark() office.Mark {
	return mark(mayBe(d, d.oneOf("gym", "hall", "z"), d.word), mayBe(d, d.Intn(9), d.number))
}

func (d anything) anyEvent() api.Event {
	e := d.event(mayBe(d, 1+d.Intn(9), d.number))
	e.Kind, e.Text = mayBe(d, e.Kind, d.word), mayBe(d, e.Text, d.word)
	e.Names, e.Values = spoiled(d, e.Names, d.word), spoiled(d, e.Values, d.number)
	return e
}

func (d anything) anyText() string {
	return d.oneOf("", "x", strings.Repeat("undo ", 1000), strings.Repeat("x", 8193), strings.Repeat("1 undo|05201569\n", 2), strings.Repeat("\n", 1000001), strings.Repeat("x", 1000001))
}

// arguments returns arguments that fit to each other, or nearly so.
func (d anything) arguments() arguments {
	whole := d.whole()
	x := arguments{
		sheet: d.sheet(), a: d.part(whole), b: d.part(whole), desk: d.oneOf("a", "gym", "hall", "z"), round: d.round(), events: d.events(12), log: d.spoiledLog(),
	}
	x.event, x.entry = d.event(len(x.events)+1), entry(x.desk, 1+d.Intn(9), 1+d.Intn(9), x.sheet)
	x.vector = sure(office.Vector(d.archive()))
	for range d.Intn(12) {
		x.lines = append(x.lines, d.line())
	}
	if d.Intn(2) == 0 {
		x.log = log(x.events)
	}
	if d.Intn(2) == 0 {
		d.spoil(&x)
	}
	return x
}

// spoil puts something of any form into some of the arguments.
func (d anything) spoil(x *arguments) {
	if d.Intn(2) == 0 {
		x.sheet, x.entry, x.event = d.anySheet(), d.anyEntry(), d.anyEvent()
	}
	x.a.Entries, x.b.Entries = spoiled(d, x.a.Entries, d.anyEntry), spoiled(d, x.b.Entries, d.anyEntry)
	x.desk, x.round = mayBe(d, x.desk, d.word), mayBe(d, x.round, d.word)
	x.vector, x.events = spoiled(d, x.vector, d.anyMark), spoiled(d, x.events, d.anyEvent)
	x.lines = spoiled(d, x.lines, d.anyText)
	if d.Intn(200) == 0 {
		x.log = d.anyText()
	}
}

// P1: every function terminates and never panics, returns zero values beside an error (but for the place of Replay, and what was recovered), and the same when it is called again: what the model returns.
func TestAnyArguments(t *testing.T) {
	d := anything{draw(18)}
	errors := map[string]map[api.Errno]bool{}
	for range 10000 {
		x := d.arguments()
		again, model := answers(x), modelAnswers(x)
		for i, y := range answers(x) {
			want(t, y.what+": the error again", again[i].e, y.e)
			want(t, "the error of "+y.what, y.e, model[i].e)
			if errors[y.what] == nil {
				errors[y.what] = map[api.Errno]bool{}
			}
			errors[y.what][y.e] = true
			for j, got := range y.results {
				want(t, y.what+" again", again[i].results[j], got)
				want(t, y.what, got, model[i].results[j])
				isZero := y.what != "Recover" && y.what != "Load" && !(y.what == "Replay" && j == 1)
				if y.e != api.OK && isZero {
					want(t, y.what+" beside an error", got, reflect.Zero(reflect.TypeOf(got)).Interface())
				}
			}
		}
	}
	for what, n := range map[string]int{
		"CheckSheet": 6, "Ranks": 6, "CheckEntry": 5, "CheckArchive": 7, "Post": 8, "Merge": 8, "Shown": 8, "Rounds": 7, "History": 8,
		"Vector": 7, "Gaps": 7, "Lacking": 7, "CheckEvent": 7, "Replay": 10, "Accepts": 12, "Published": 10, "Append": 9, "Recover": 6, "New": 1, "Load": 8,
	} {
		want(t, "whether "+what+" has returned many different errors", len(errors[what]) >= n, true)
	}
}

// scramble overwrites all lists in a result.
func scramble(v reflect.Value) {
	switch v.Kind() {
	case reflect.Slice:
		for i := range v.Len() {
			scramble(v.Index(i))
			v.Index(i).SetZero()
		}
		// What is behind the end of a list may belong to nobody else.
		whole := v.Slice3(0, v.Cap(), v.Cap())
		for i := v.Len(); i < v.Cap(); i++ {
			whole.Index(i).SetZero()
		}
	case reflect.Struct:
		for i := range v.NumField() {
			scramble(v.Field(i))
		}
	}
}

// P1: arguments are not modified, and results share no memory with them.
func TestMemory(t *testing.T) {
	for seed := range int64(500) {
		before := anything{draw(seed)}.arguments()
		x := anything{draw(seed)}.arguments()
		wanted := answers(x)
		want(t, "the arguments", reflect.DeepEqual(x, before), true)
		for _, y := range answers(x) {
			for _, got := range y.results {
				scramble(reflect.ValueOf(got))
			}
		}
		want(t, "the arguments behind changes of results", reflect.DeepEqual(x, before), true)
		for i, y := range answers(x) {
			for j, got := range y.results {
				want(t, y.what+" behind changes of results", got, wanted[i].results[j])
			}
		}
	}
}

// P1: the lists of a result share no memory with each other.
func TestMemoryOfResults(t *testing.T) {
	d := draw(19)
	for range 300 {
		l := d.events(20)
		a, x := d.archive(), d.archive()
		both := sure(office.Merge(a, a))
		for i, got := range []any{
			sure(office.Published(l, "hall")), both, sure(office.Lacking(a, nil)), sure(office.Post(a, "z", d.sheet())),
			sure(office.Load(log(l))).Events(), sure(office.Lacking(x, nil)), book(t, l...),
		} {
			v := reflect.ValueOf(got)
			seen := map[uintptr]bool{}
			want(t, "whether two lists of a result are apart", apart(v, seen), true)
			want(t, "whether there were lists", i > 0 || len(l) == 0 || len(seen) > 0, true)
		}
	}
}

// apart reports whether no two lists begin at the same place.
func apart(v reflect.Value, seen map[uintptr]bool) bool {
	switch v.Kind() {
	case reflect.Slice:
		if v.Cap() > 0 {
			if seen[v.Pointer()] {
				return false
			}
			seen[v.Pointer()] = true
		}
		for i := range v.Len() {
			// The first element of a list begins where the list does, but is none.
			if !apart(v.Index(i), seen) {
				return false
			}
		}
	case reflect.Struct:
		for i := range v.NumField() {
			if !apart(v.Field(i), seen) {
				return false
			}
		}
	}
	return true
}

// P1: what is behind the end of an argument stays as it is.
func TestMemoryBehindArguments(t *testing.T) {
	l := append(make([]office.Entry, 0, 9), at("gym", 1, 1), at("hall", 1, 1))
	s := sheet(1, append(make([]api.Result, 0, 9), has("ann", 1))...)
	events := append(make([]api.Event, 0, 9), four()...)
	sure(office.Post(archive(l...), "gym", s))
	sure(office.Merge(archive(l...), archive(at("spa", 1, 1))))
	want(t, "Accepts", office.Accepts(events, undone(5)), api.OK)
	want(t, "the entries and what is behind them", l[:3], []office.Entry{at("gym", 1, 1), at("hall", 1, 1), {}})
	want(t, "the results and what is behind them", s.Results[:2], []api.Result{has("ann", 1), {}})
	want(t, "the events and what is behind them", events[:5], append(four(), api.Event{}))
}

// P1: arguments that are far too long come to an end with their errors.
func TestLongArguments(t *testing.T) {
	const size = 2000000
	text := strings.Repeat("a", size)
	x := arguments{
		sheet: sheet(1, make([]api.Result, size)...), a: archive(make([]office.Entry, size)...), b: archive(make([]office.Entry, size)...),
		vector: make([]office.Mark, size), event: posted(1, "r", "c", text), events: make([]api.Event, size), log: text, lines: []string{text, "post r c " + text},
	}
	x.entry = entry("hall", 1, 1, x.sheet)
	errors := map[string]api.Errno{"CheckEvent": api.ErrLong, "Append": api.ErrLong, "Recover": api.ErrLong, "Load": api.ErrLong, "New": api.OK}
	for _, y := range answers(x) {
		wanted, isOther := errors[y.what]
		want(t, "the error of "+y.what, y.e, map[bool]api.Errno{true: wanted, false: api.ErrMany}[isOther])
	}
	want(t, "the errors of a session", protocolOf(office.New(), x.lines).Errors, []api.Errno{api.ErrLong, api.ErrLong})
	want(t, "many names", office.CheckEvent(api.Event{Number: 1, Kind: "drop", Names: make([]string, size)}), api.ErrShape)
	want(t, "many values", office.CheckEvent(api.Event{Number: 1, Kind: "open", Names: []string{"r"}, Values: make([]int, size)}), api.ErrShape)
	want(t, "many values of a result", office.CheckSheet(sheet(1, has("ann", make([]int, size)...))), api.ErrShape)
	want(t, "a long name", office.CheckSheet(office.Sheet{Round: text}), api.ErrName)
	fails(t, "a long desk", api.ErrName)(office.Post(archive(), text, office.Sheet{}))
	fails(t, "a long round", api.ErrName)(office.Shown(archive(), text))
}

// P1: the most of everything.
func TestLargestArguments(t *testing.T) {
	full := office.Sheet{Round: "final", Values: 16, State: "open"}
	for _, name := range names(160) {
		full.Results = append(full.Results, has(name, slices.Repeat([]int{api.MaxNumber}, 16)...))
	}
	var a, b office.Archive
	for i := range 1000 {
		x := entry("hall", i+1, 1000*(i+1), full)
		a.Entries = append(a.Entries, x)
		if i%2 == 0 {
			b.Entries = append(b.Entries, x)
		}
	}
	want(t, "whether both are merged", same(sure(office.Merge(a, b)), a), true)
	want(t, "whether the last one is shown", same(sure(office.Shown(a, "final")), full), true)
	want(t, "how many entries are lacking", len(sure(office.Lacking(a, sure(office.Vector(b))))), 999)
	gives(t, "the vector", []office.Mark{mark("hall", 1)})(office.Vector(b))
	gives(t, "the ranks", slices.Repeat([]int{1}, 160))(office.Ranks(full))
}
