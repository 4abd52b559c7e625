package office

import (
	"iter"
	"slices"
	"strconv"
	"strings"

	"crux/api"
	"crux/check"
	"crux/exact"
)

// What stands between the words of a body, behind a body, and behind a record.
const (
	blank    = " "
	bar      = "|"
	lineFeed = "\n"
)

// The check sums are two remainders, with so many digits each.
const (
	modulus   = 9973
	sumDigits = 4
)

// sums are the two parts of a check sum.
type sums [2]int

// Append returns a log with a further record.
func Append(log string, e api.Event) (string, api.Errno) {
	l, _, err := Recover(log)
	err = check.First(err, CheckEvent(e), check.If(e.Number != len(l)+1, api.ErrOrder))
	if err != api.OK {
		return "", err
	}
	longer := log + record(e)
	if len(longer) > api.MaxLog {
		return "", api.ErrLong
	}
	return longer, api.OK
}

// Recover returns the events of the longest beginning that is a log.
func Recover(log string) ([]api.Event, int, api.Errno) {
	if len(log) > api.MaxLog {
		return nil, 0, api.ErrLong
	}
	var l []api.Event
	length := 0
	for line := range records(log) {
		e, err := readRecord(line)
		if err = check.First(err, check.If(e.Number != len(l)+1, api.ErrOrder)); err != api.OK {
			return l, length, err
		}
		l = append(l, e)
		length += len(line) + len(lineFeed)
	}
	return l, length, check.If(length < len(log), api.ErrTorn)
}

// records goes through the lines of a text that end with a line feed, without it.
func records(log string) iter.Seq[string] {
	return func(yield func(string) bool) {
		line, rest, isWhole := strings.Cut(log, lineFeed)
		for isWhole && yield(line) {
			line, rest, isWhole = strings.Cut(rest, lineFeed)
		}
	}
}

func record(e api.Event) string {
	body := strconv.Itoa(e.Number) + blank + lineOf(e)
	return body + bar + sumsOf(body).print() + lineFeed
}

// lineOf returns the body of an event without its number.
func lineOf(e api.Event) string {
	words := slices.Concat([]string{e.Kind}, e.Names)
	for _, value := range e.Values {
		words = append(words, strconv.Itoa(value))
	}
	if kinds()[e.Kind].hasText {
		words = append(words, e.Text)
	}
	return strings.Join(words, blank)
}

// readRecord returns the event of a record without its line feed, or the error by which it is none.
func readRecord(record string) (api.Event, api.Errno) {
	end := len(record) - len(bar) - 2*sumDigits
	if end < 0 || !strings.HasPrefix(record[end:], bar) {
		return api.Event{}, api.ErrSyntax
	}
	body, digits := record[:end], record[end+len(bar):]
	sum, ok := readSums(digits)
	switch {
	case !ok:
		return api.Event{}, api.ErrSyntax
	case sum != sumsOf(body):
		return api.Event{}, api.ErrCheck
	}
	word, rest, _ := strings.Cut(body, blank)
	number, isNumber := exact.ReadShort(word)
	e, isLine := readLine(number, rest)
	if !isNumber || !isLine || CheckEvent(e) != api.OK {
		return api.Event{}, api.ErrSyntax
	}
	return e, api.OK
}

// readLine returns the event with a number and a body without it, and whether this has the form of one.
func readLine(number int, line string) (api.Event, bool) {
	word, _, _ := strings.Cut(line, blank)
	k, isKind := kinds()[word]
	words, isSplit := k.split(line)
	if !isKind || !isSplit {
		return api.Event{}, false
	}
	e := api.Event{Number: number, Kind: word, Names: slices.Clone(words[1 : 1+k.names])}
	if slices.Contains(e.Names, "") {
		return api.Event{}, false
	}
	for _, word := range words[1+k.names : 1+k.names+k.values] {
		value, ok := exact.ReadShort(word)
		if !ok || value < 0 {
			return api.Event{}, false
		}
		e.Values = append(e.Values, value)
	}
	if k.hasText {
		e.Text = words[len(words)-1]
	}
	return e, true
}

// split returns the words of a line, and whether there are as many as a kind has. A text is one word, with all the blanks that it has.
func (k kind) split(line string) ([]string, bool) {
	n := 1 + k.names + k.values
	if !k.hasText {
		words := strings.Split(line, blank)
		return words, len(words) == n
	}
	words := strings.SplitN(line, blank, n+1)
	return words, len(words) == n+1
}

// sumsOf returns the check sum of Fletcher of a text.
func sumsOf(s string) sums {
	a, b := 1, 0
	for i := range len(s) {
		a = (a + int(s[i])) % modulus
		b = (b + a) % modulus
	}
	return sums{a, b}
}

func (x sums) print() string {
	var text string
	for _, n := range x {
		digits := strconv.Itoa(n)
		text += strings.Repeat("0", sumDigits-len(digits)) + digits
	}
	return text
}

// readSums returns the check sum with a text of as many bytes as one has, and whether these are digits.
func readSums(s string) (sums, bool) {
	var x sums
	for i := range x {
		n, err := strconv.ParseUint(s[i*sumDigits:(i+1)*sumDigits], 10, 64)
		if err != nil {
			return sums{}, false
		}
		x[i] = int(n)
	}
	return x, true
}
