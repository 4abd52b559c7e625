package office_test

import (
	"bytes"
	"regexp"
	"slices"
	"sort"
	"strconv"
	"strings"

	"crux/api"
	"crux/number"
	"crux/office"
)

// These functions follow the chapter sentence by sentence. The package is compared with them.

func outside(n, least, greatest int) bool {
	return n < least || n > greatest
}

// first returns the first error that is not OK.
func first(l ...api.Errno) api.Errno {
	for _, e := range l {
		if e != api.OK {
			return e
		}
	}
	return api.OK
}

// when returns an error if something is wrong.
func when(wrong bool, e api.Errno) api.Errno {
	if wrong {
		return e
	}
	return api.OK
}

func modelName(s string) api.Errno {
	return when(!number.IsName(s), api.ErrName)
}

func modelSheet(s office.Sheet) api.Errno {
	if !number.IsName(s.Round) {
		return api.ErrName
	}
	if outside(s.Values, 1, 16) {
		return api.ErrRange
	}
	if s.State != "open" && s.State != "closed" {
		return api.ErrKind
	}
	if len(s.Results) > 160 {
		return api.ErrMany
	}
	for i, r := range s.Results {
		if !number.IsName(r.Climber) {
			return api.ErrName
		}
		for j := range i {
			if s.Results[j].Climber == r.Climber {
				return api.ErrTwice
			}
		}
		switch r.State {
		case "dns", "dnf", "dsq":
			if len(r.Values) != 0 {
				return api.ErrShape
			}
		case "":
			if len(r.Values) != s.Values {
				return api.ErrShape
			}
		default:
			return api.ErrKind
		}
		for _, value := range r.Values {
			if outside(value, -999999999, 999999999) {
				return api.ErrRange
			}
		}
	}
	return api.OK
}

func modelBetter(a, b api.Result) bool {
	if a.State == "" && b.State != "" {
		return true
	}
	if a.State != "" && b.State == "" {
		return false
	}
	if a.State != "" {
		const order = "dns dnf dsq"
		return strings.Index(order, a.State) < strings.Index(order, b.State)
	}
	for i := range a.Values {
		if a.Values[i] != b.Values[i] {
			return a.Values[i] > b.Values[i]
		}
	}
	return false
}

func modelRanks(s office.Sheet) ([]int, api.Errno) {
	if e := modelSheet(s); e != api.OK {
		return nil, e
	}
	ranks := make([]int, len(s.Results))
	for i := range ranks {
		ranks[i] = 1
		for j := range ranks {
			if modelBetter(s.Results[j], s.Results[i]) {
				ranks[i]++
			}
		}
	}
	return ranks, api.OK
}

func modelEntry(e office.Entry) api.Errno {
	if !number.IsName(e.Desk) {
		return api.ErrName
	}
	if outside(e.Number, 1, 1000) || outside(e.Clock, 1, 1000000) {
		return api.ErrRange
	}
	return modelSheet(e.Sheet)
}

func modelArchive(a office.Archive) api.Errno {
	if len(a.Entries) > 1000 {
		return api.ErrMany
	}
	for i, x := range a.Entries {
		if e := modelEntry(x); e != api.OK {
			return e
		}
		if i == 0 {
			continue
		}
		before := a.Entries[i-1]
		if x.Desk < before.Desk {
			return api.ErrOrder
		}
		if x.Desk == before.Desk && (x.Number <= before.Number || x.Clock <= before.Clock) {
			return api.ErrOrder
		}
	}
	return api.OK
}

// sorted returns an archive with entries in their order.
func sorted(l []office.Entry) office.Archive {
	l = slices.Clone(l)
	sort.Slice(l, func(i, j int) bool {
		return l[i].Desk < l[j].Desk || l[i].Desk == l[j].Desk && l[i].Number < l[j].Number
	})
	return archive(l...)
}

func modelPost(a office.Archive, desk string, s office.Sheet) (office.Archive, api.Errno) {
	if e := first(modelArchive(a), modelName(desk), modelSheet(s)); e != api.OK {
		return office.Archive{}, e
	}
	if len(a.Entries) == 1000 {
		return office.Archive{}, api.ErrMany
	}
	numbers, clocks := []int{0}, []int{0}
	for _, x := range a.Entries {
		if x.Desk == desk {
			numbers = append(numbers, x.Number)
		}
		clocks = append(clocks, x.Clock)
	}
	x := entry(desk, slices.Max(numbers)+1, slices.Max(clocks)+1, s)
	if x.Number > 1000 || x.Clock > 1000000 {
		return office.Archive{}, api.ErrRange
	}
	return sorted(append(slices.Clone(a.Entries), x)), api.OK
}

func modelMerge(a, b office.Archive) (office.Archive, api.Errno) {
	if e := first(modelArchive(a), modelArchive(b)); e != api.OK {
		return office.Archive{}, e
	}
	both := slices.Clone(a.Entries)
	for _, y := range b.Entries {
		isNew := true
		for _, x := range a.Entries {
			if x.Desk == y.Desk && x.Number == y.Number {
				isNew = false
				if !same(x, y) {
					return office.Archive{}, api.ErrConflict
				}
			}
		}
		if isNew {
			both = append(both, y)
		}
	}
	if len(both) > 1000 {
		return office.Archive{}, api.ErrMany
	}
	if modelArchive(sorted(both)) != api.OK {
		return office.Archive{}, api.ErrConflict
	}
	return sorted(both), api.OK
}

func modelNewer(a, b office.Entry) bool {
	return a.Clock > b.Clock || a.Clock == b.Clock && a.Desk > b.Desk
}

func modelHistory(a office.Archive, round string) ([]office.Mark, api.Errno) {
	if e := first(modelArchive(a), modelName(round)); e != api.OK {
		return nil, e
	}
	var l []office.Entry
	for _, x := range a.Entries {
		if x.Sheet.Round == round {
			l = append(l, x)
		}
	}
	if len(l) == 0 {
		return nil, api.ErrUnknown
	}
	sort.Slice(l, func(i, j int) bool { return modelNewer(l[j], l[i]) })
	var marks []office.Mark
	for _, x := range l {
		marks = append(marks, mark(x.Desk, x.Number))
	}
	return marks, api.OK
}

func modelShown(a office.Archive, round string) (office.Sheet, api.Errno) {
	if e := first(modelArchive(a), modelName(round)); e != api.OK {
		return office.Sheet{}, e
	}
	var shown office.Entry
	for _, x := range a.Entries {
		if x.Sheet.Round == round && modelNewer(x, shown) {
			shown = x
		}
	}
	return shown.Sheet, when(shown.Number == 0, api.ErrUnknown)
}

func modelRounds(a office.Archive) ([]string, api.Errno) {
	if e := modelArchive(a); e != api.OK {
		return nil, e
	}
	rounds := map[string]bool{}
	for _, x := range a.Entries {
		rounds[x.Sheet.Round] = true
	}
	return keys(rounds), api.OK
}

// keys returns the keys of a map in ascending order.
func keys[T any](m map[string]T) []string {
	var l []string
	for key := range m {
		l = append(l, key)
	}
	sort.Strings(l)
	return l
}

// numbersOf returns the numbers that are there, by their desks.
func numbersOf(a office.Archive) map[string][]int {
	numbers := map[string][]int{}
	for _, x := range a.Entries {
		numbers[x.Desk] = append(numbers[x.Desk], x.Number)
	}
	return numbers
}

func modelVector(a office.Archive) ([]office.Mark, api.Errno) {
	if e := modelArchive(a); e != api.OK {
		return nil, e
	}
	var v []office.Mark
	numbers := numbersOf(a)
	for _, desk := range keys(numbers) {
		n := 0
		for slices.Contains(numbers[desk], n+1) {
			n++
		}
		v = append(v, mark(desk, n))
	}
	return v, api.OK
}

func modelGaps(a office.Archive) ([]office.Mark, api.Errno) {
	if e := modelArchive(a); e != api.OK {
		return nil, e
	}
	var gaps []office.Mark
	numbers := numbersOf(a)
	for _, desk := range keys(numbers) {
		for n := slices.Max(numbers[desk]); n > 0; n-- {
			if slices.Contains(numbers[desk], n) {
				continue
			}
			if len(gaps) > 0 && gaps[len(gaps)-1].Desk == desk {
				gaps = gaps[:len(gaps)-1]
			}
			gaps = append(gaps, mark(desk, n))
		}
	}
	return gaps, api.OK
}

func modelMarks(v []office.Mark) api.Errno {
	if len(v) > 1000 {
		return api.ErrMany
	}
	for i, m := range v {
		if !number.IsName(m.Desk) {
			return api.ErrName
		}
		if outside(m.Number, 0, 1000) {
			return api.ErrRange
		}
		if i > 0 && m.Desk <= v[i-1].Desk {
			return api.ErrOrder
		}
	}
	return api.OK
}

func modelLacking(a office.Archive, v []office.Mark) ([]office.Entry, api.Errno) {
	if e := first(modelArchive(a), modelMarks(v)); e != api.OK {
		return nil, e
	}
	var l []office.Entry
	for _, x := range a.Entries {
		isKnown := slices.ContainsFunc(v, func(m office.Mark) bool { return m.Desk == x.Desk && m.Number >= x.Number })
		if !isKnown {
			l = append(l, x)
		}
	}
	return l, api.OK
}

func modelEvent(e api.Event) api.Errno {
	if outside(e.Number, 1, 1000) {
		return api.ErrRange
	}
	names := map[string]int{"open": 1, "post": 2, "drop": 2, "close": 1, "reopen": 1, "undo": 0}
	n, isKind := names[e.Kind]
	if !isKind {
		return api.ErrKind
	}
	if len(e.Names) != n || len(e.Values) != map[string]int{"open": 1}[e.Kind] {
		return api.ErrShape
	}
	for _, name := range e.Names {
		if !number.IsName(name) {
			return api.ErrName
		}
	}
	for _, value := range e.Values {
		if outside(value, 0, 999999999) {
			return api.ErrRange
		}
	}
	if e.Kind != "post" && e.Text != "" || bytes.ContainsAny([]byte(e.Text), "|\n") {
		return api.ErrForm
	}
	return when(len(e.Text) > 4096, api.ErrLong)
}

// integer is the form of the integers in the text of a result.
var integer = regexp.MustCompile(`^(0|-?[1-9][0-9]{0,8})$`)

// modelResult returns the result of a climber with a text, and whether it is one.
func modelResult(climber, text string) (api.Result, bool) {
	if text == "dns" || text == "dnf" || text == "dsq" {
		return is(climber, text), true
	}
	r := has(climber)
	for _, word := range strings.Split(text, ",") {
		if !integer.MatchString(word) {
			return api.Result{}, false
		}
		value, _ := strconv.Atoi(word)
		r.Values = append(r.Values, value)
	}
	return r, true
}

// counting returns those of accepted events that count.
func counting(l []api.Event) []api.Event {
	var counting []api.Event
	for _, e := range l {
		if e.Kind == "undo" {
			counting = counting[:len(counting)-1]
		} else {
			counting = append(counting[:len(counting):len(counting)], e)
		}
	}
	return counting
}

// modelBook returns the book after accepted events.
func modelBook(l []api.Event) office.Book {
	var b office.Book
	for _, e := range counting(l) {
		if e.Kind == "open" {
			b.Sheets = append(b.Sheets, office.Sheet{Round: e.Names[0], Values: e.Values[0], State: "open"})
			continue
		}
		for i := range b.Sheets {
			if s := &b.Sheets[i]; s.Round == e.Names[0] {
				modelChange(s, e)
			}
		}
	}
	return b
}

// modelChange does to a sheet what an event of its round does.
func modelChange(s *office.Sheet, e api.Event) {
	switch e.Kind {
	case "post":
		r, _ := modelResult(e.Names[1], e.Text)
		for i := range s.Results {
			if s.Results[i].Climber == r.Climber {
				s.Results[i] = r
				return
			}
		}
		s.Results = append(s.Results, r)
	case "drop":
		var others []api.Result
		for _, r := range s.Results {
			if r.Climber != e.Names[1] {
				others = append(others, r)
			}
		}
		s.Results = others
	case "close":
		s.State = "closed"
	case "reopen":
		s.State = "open"
	}
}

// modelAccepted returns the error with which an event, which has none of its own, is not accepted after others that are.
func modelAccepted(l []api.Event, e api.Event) api.Errno {
	if e.Number != len(l)+1 {
		return api.ErrOrder
	}
	if e.Kind == "undo" {
		return when(len(counting(l)) == 0, api.ErrEmpty)
	}
	b := modelBook(l)
	sheets := map[string]office.Sheet{}
	for _, s := range b.Sheets {
		sheets[s.Round] = s
	}
	s, isThere := sheets[e.Names[0]]
	if e.Kind == "open" {
		return first(when(isThere, api.ErrTwice), when(outside(e.Values[0], 1, 16), api.ErrRange), when(len(sheets) == 64, api.ErrMany))
	}
	if !isThere {
		return api.ErrUnknown
	}
	results := map[string]api.Result{}
	for _, r := range s.Results {
		results[r.Climber] = r
	}
	switch e.Kind {
	case "post":
		if s.State == "closed" {
			return api.ErrOver
		}
		r, isResult := modelResult(e.Names[1], e.Text)
		before, hasResult := results[e.Names[1]]
		return first(
			when(!isResult, api.ErrSyntax),
			when(r.State == "" && len(r.Values) != s.Values, api.ErrShape),
			when(hasResult && same(before, r), api.ErrTwice),
			when(!hasResult && len(results) == 160, api.ErrMany),
		)
	case "drop":
		_, hasResult := results[e.Names[1]]
		return first(when(s.State == "closed", api.ErrOver), when(!hasResult, api.ErrUnknown))
	case "close":
		return first(when(s.State == "closed", api.ErrTwice), when(len(results) == 0, api.ErrEmpty))
	}
	return when(s.State == "open", api.ErrState)
}

func modelReplay(l []api.Event) (office.Book, int, api.Errno) {
	if len(l) > 1000 {
		return office.Book{}, 0, api.ErrMany
	}
	for i, e := range l {
		err := modelEvent(e)
		if err == api.OK {
			err = modelAccepted(l[:i], e)
		}
		if err != api.OK {
			return office.Book{}, i + 1, err
		}
	}
	return modelBook(l), 0, api.OK
}

func modelAccepts(l []api.Event, e api.Event) api.Errno {
	_, _, err := modelReplay(l)
	err = first(err, modelEvent(e), when(len(l) == 1000, api.ErrMany))
	if err != api.OK {
		return err
	}
	return modelAccepted(l, e)
}

func modelPublished(l []api.Event, desk string) (office.Archive, api.Errno) {
	_, _, err := modelReplay(l)
	if err = first(err, modelName(desk)); err != api.OK {
		return office.Archive{}, err
	}
	var a office.Archive
	for i := range l {
		before := modelBook(l[:i])
		for _, s := range modelBook(l[:i+1]).Sheets {
			if slices.ContainsFunc(before.Sheets, func(x office.Sheet) bool { return same(x, s) }) {
				continue
			}
			if a, err = modelPost(a, desk, s); err != api.OK {
				return office.Archive{}, err
			}
		}
	}
	return a, api.OK
}

func modelBody(e api.Event) string {
	words := []string{strconv.Itoa(e.Number), e.Kind}
	words = append(words, e.Names...)
	for _, value := range e.Values {
		words = append(words, strconv.Itoa(value))
	}
	if e.Kind == "post" {
		words = append(words, e.Text)
	}
	return strings.Join(words, " ")
}

// modelSum returns the check sum of a text by a formula: each byte is once in the one part, and in the other one as often as there are bytes from it on.
func modelSum(s string) string {
	a, b := 1, len(s)
	for i := range len(s) {
		a += int(s[i])
		b += int(s[i]) * (len(s) - i)
	}
	text := strconv.Itoa(100000000 + a%9973*10000 + b%9973)
	return text[1:]
}

func modelRecord(e api.Event) string {
	return modelBody(e) + "|" + modelSum(modelBody(e)) + "\n"
}

// The forms of bodies without numbers, by their kinds.
var (
	openForm = regexp.MustCompile(`^open ([^ ]+) (0|[1-9][0-9]{0,8})$`)
	postForm = regexp.MustCompile(`(?s)^post ([^ ]+) ([^ ]+) (.*)$`)
	dropForm = regexp.MustCompile(`^drop ([^ ]+) ([^ ]+)$`)
	stepForm = regexp.MustCompile(`^(?:close|reopen) ([^ ]+)$`)
	undoForm = regexp.MustCompile(`^undo$`)
)

// modelLine returns the event with a number and a body without it, and whether this has its form. Bytes that are no text are read as others.
func modelLine(n int, line string) (api.Event, bool) {
	kind, _, _ := strings.Cut(line, " ")
	e := api.Event{Number: n, Kind: kind}
	forms := map[string]*regexp.Regexp{"open": openForm, "post": postForm, "drop": dropForm, "close": stepForm, "reopen": stepForm, "undo": undoForm}
	if forms[kind] == nil {
		return api.Event{}, false
	}
	fields := forms[kind].FindStringSubmatch(line)
	if fields == nil {
		return api.Event{}, false
	}
	switch fields = fields[1:]; kind {
	case "open":
		e.Names, e.Values = fields[:1], make([]int, 1)
		e.Values[0], _ = strconv.Atoi(fields[1])
	case "post":
		e.Names, e.Text = fields[:2], fields[2]
	default:
		e.Names = fields
	}
	return e, true
}

var (
	recordForm = regexp.MustCompile(`(?s)^(.*)\|([0-9]{8})$`)
	bodyForm   = regexp.MustCompile(`(?s)^([1-9][0-9]{0,8}) (.*)$`)
)

// modelRead returns the event of a record without its line feed, or its error behind so many others.
func modelRead(line string, before int) (api.Event, api.Errno) {
	parts := recordForm.FindStringSubmatch(line)
	if parts == nil {
		return api.Event{}, api.ErrSyntax
	}
	if modelSum(parts[1]) != parts[2] {
		return api.Event{}, api.ErrCheck
	}
	words := bodyForm.FindStringSubmatch(parts[1])
	if words == nil {
		return api.Event{}, api.ErrSyntax
	}
	n, _ := strconv.Atoi(words[1])
	e, ok := modelLine(n, words[2])
	if !ok || modelEvent(e) != api.OK {
		return api.Event{}, api.ErrSyntax
	}
	return e, when(n != before+1, api.ErrOrder)
}

func modelRecover(log string) ([]api.Event, int, api.Errno) {
	if len(log) > 1000000 {
		return nil, 0, api.ErrLong
	}
	var l []api.Event
	length := 0
	for length < len(log) {
		end := strings.IndexByte(log[length:], '\n')
		if end < 0 {
			return l, length, api.ErrTorn
		}
		e, err := modelRead(log[length:length+end], len(l))
		if err != api.OK {
			return l, length, err
		}
		l, length = append(l, e), length+end+1
	}
	return l, length, api.OK
}

func modelAppend(log string, e api.Event) (string, api.Errno) {
	l, _, err := modelRecover(log)
	if err = first(err, modelEvent(e), when(e.Number != len(l)+1, api.ErrOrder)); err != api.OK {
		return "", err
	}
	if log += modelRecord(e); len(log) > 1000000 {
		return "", api.ErrLong
	}
	return log, api.OK
}

// modelLoad returns the events of a session with a log.
func modelLoad(log string) ([]api.Event, api.Errno) {
	l, _, err := modelRecover(log)
	if err != api.OK && err != api.ErrTorn {
		return nil, err
	}
	if _, _, err = modelReplay(l); err != api.OK {
		return nil, err
	}
	return l, api.OK
}

// modelDo returns the events of a session behind a line, the answer, and the error.
func modelDo(l []api.Event, line string) ([]api.Event, string, api.Errno) {
	if len(line) > 8192 {
		return l, "", api.ErrLong
	}
	if line == "" {
		return l, "", api.ErrSyntax
	}
	words := strings.Split(line, " ")
	switch words[0] {
	case "open", "post", "drop", "close", "reopen", "undo":
		e, ok := modelLine(len(l)+1, line)
		if !ok {
			return l, "", api.ErrSyntax
		}
		if len(l) == 1000 {
			return l, "", api.ErrMany
		}
		if err := modelAccepts(l, e); err != api.OK {
			return l, "", err
		}
		return append(slices.Clone(l), e), "done " + strconv.Itoa(len(l)+1), api.OK
	case "sheet", "ranks", "rounds":
		answer, err := modelAnswer(modelBook(l), words)
		return l, answer, err
	}
	return l, "", api.ErrKind
}

// modelAnswer returns the answer to a question.
func modelAnswer(b office.Book, words []string) (string, api.Errno) {
	if len(words) != map[string]int{"sheet": 2, "ranks": 2, "rounds": 1}[words[0]] || slices.Contains(words, "") {
		return "", api.ErrSyntax
	}
	if words[0] == "rounds" {
		answer := ""
		for _, s := range b.Sheets {
			answer += " " + s.Round + ":" + strconv.Itoa(len(s.Results))
		}
		return orNone(answer), api.OK
	}
	for _, s := range b.Sheets {
		switch {
		case s.Round != words[1]:
		case words[0] == "sheet":
			answer := s.State
			for _, r := range s.Results {
				answer += " " + r.Climber + "=" + modelText(r)
			}
			return answer, api.OK
		default:
			return modelRanking(s), api.OK
		}
	}
	return "", api.ErrUnknown
}

func modelRanking(s office.Sheet) string {
	ranks, _ := modelRanks(s)
	answer := ""
	for rank := 1; rank <= len(ranks); rank++ {
		for i, r := range s.Results {
			if ranks[i] == rank {
				answer += " " + strconv.Itoa(rank) + "." + r.Climber
			}
		}
	}
	return orNone(answer)
}

func modelText(r api.Result) string {
	text := ""
	for _, value := range r.Values {
		text += "," + strconv.Itoa(value)
	}
	return strings.TrimPrefix(r.State+text, ",")
}

// orNone returns an answer whose elements have blanks in front.
func orNone(answer string) string {
	if answer == "" {
		return "none"
	}
	return answer[1:]
}
