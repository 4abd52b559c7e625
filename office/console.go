package office

import (
	"cmp"
	"slices"
	"strconv"
	"strings"

	"crux/api"
	"crux/check"
)

// Session is a console.
type Session struct {
	history
}

// question is a question of the console: how many words it has, and what it is answered with.
type question struct {
	words  int
	answer func(b Book, words []string) (string, api.Errno)
}

// questions returns the questions by their first words.
func questions() map[string]question {
	return map[string]question{
		"sheet":  {words: 2, answer: about(sheetOf)},
		"ranks":  {words: 2, answer: about(ranksOf)},
		"rounds": {words: 1, answer: roundsOf},
	}
}

// New returns a session without events.
func New() *Session {
	return &Session{}
}

// Load returns the session with a log.
func Load(log string) (*Session, api.Errno) {
	l, _, e := Recover(log)
	if e != api.OK && e != api.ErrTorn {
		return nil, e
	}
	h, _, e := replay(l)
	if e != api.OK {
		return nil, e
	}
	return &Session{history: h}, api.OK
}

// Do does a line, and returns its answer.
func (s *Session) Do(line string) (string, api.Errno) {
	switch {
	case s == nil:
		return "", api.ErrState
	case len(line) > 2*api.MaxText:
		return "", api.ErrLong
	case line == "":
		return "", api.ErrSyntax
	}
	word, _, _ := strings.Cut(line, blank)
	if _, isKind := kinds()[word]; isKind {
		return s.add(line)
	}
	if q, isQuestion := questions()[word]; isQuestion {
		return q.ask(s.book(), line)
	}
	return "", api.ErrKind
}

// add adds the event of a line that begins with its kind.
func (s *Session) add(line string) (string, api.Errno) {
	e, isEvent := readLine(len(s.events)+1, line)
	err := check.First(
		check.If(!isEvent, api.ErrSyntax),
		check.If(len(s.events) >= api.MaxEvents, api.ErrMany),
		CheckEvent(e),
	)
	if err != api.OK {
		return "", err
	}
	if err := s.accept(e); err != api.OK {
		return "", err
	}
	return joined("done", strconv.Itoa(e.Number)), api.OK
}

// Events returns the events.
func (s *Session) Events() []api.Event {
	if s == nil {
		return nil
	}
	return copied(s.events, func(e api.Event) api.Event {
		e.Names, e.Values = slices.Clone(e.Names), slices.Clone(e.Values)
		return e
	})
}

// Log returns the log of the events.
func (s *Session) Log() string {
	if s == nil {
		return ""
	}
	var log strings.Builder
	for _, e := range s.events {
		log.WriteString(record(e))
	}
	return log.String()
}

// ask returns the answer to a line that begins with the first word of a question.
func (q question) ask(b Book, line string) (string, api.Errno) {
	words := strings.Split(line, blank)
	if len(words) != q.words || slices.Contains(words, "") {
		return "", api.ErrSyntax
	}
	return q.answer(b, words)
}

// about returns an answer about the sheet of the round that is the second word.
func about(answer func(s Sheet) string) func(b Book, words []string) (string, api.Errno) {
	return func(b Book, words []string) (string, api.Errno) {
		i := b.find(words[1])
		if i < 0 {
			return "", api.ErrUnknown
		}
		return answer(b.Sheets[i]), api.OK
	}
}

func sheetOf(s Sheet) string {
	elements := []string{s.State}
	for _, r := range s.Results {
		elements = append(elements, r.Climber+"="+printResult(r))
	}
	return joined(elements...)
}

func ranksOf(s Sheet) string {
	type ranked struct {
		rank    int
		climber string
	}
	var l []ranked
	for i, rank := range s.ranks() {
		l = append(l, ranked{rank, s.Results[i].Climber})
	}
	slices.SortStableFunc(l, func(a, b ranked) int { return cmp.Compare(a.rank, b.rank) })
	var elements []string
	for _, x := range l {
		elements = append(elements, strconv.Itoa(x.rank)+"."+x.climber)
	}
	return joined(elements...)
}

func roundsOf(b Book, _ []string) (string, api.Errno) {
	var elements []string
	for _, s := range b.Sheets {
		elements = append(elements, s.Round+":"+strconv.Itoa(len(s.Results)))
	}
	return joined(elements...), api.OK
}

// joined returns an answer of elements with blanks between them.
func joined(elements ...string) string {
	if len(elements) == 0 {
		return "none"
	}
	return strings.Join(elements, blank)
}
