package office_test

import (
	"slices"
	"strconv"
	"strings"
	"testing"

	"crux/api"
	"crux/office"
)

// P10.5: example 4, as the check sums of bodies.
func TestExampleOfSums(t *testing.T) {
	want(t, "the sum of 1", modelSum("1"), "00500050")
	want(t, "the sum of 12", modelSum("12"), "01000150")
	// These texts are no bodies, but their sums are right.
	for _, row := range []struct {
		log string
		e   api.Errno
	}{
		{"1|00500050\n", api.ErrSyntax}, {"12|01000150\n", api.ErrSyntax}, {"|00010000\n", api.ErrSyntax},
		{"1|00500051\n", api.ErrCheck}, {"12|01010150\n", api.ErrCheck}, {"|00000000\n", api.ErrCheck}, {"1|01000150\n", api.ErrCheck},
	} {
		l, length, e := office.Recover(row.log)
		want(t, "the error of "+row.log, e, row.e)
		want(t, "the length", length, 0)
		want(t, "the events", l, []api.Event(nil))
	}
}

// record returns a body with its check sum.
func record(body string) string {
	return body + "|" + modelSum(body) + "\n"
}

// P10.5: the records of all kinds, written out.
func TestRecords(t *testing.T) {
	text := ""
	l := []api.Event{
		opened(1, "final", 2), posted(2, "final", "ann", "34,1"), posted(3, "final", "a_Z9", " any  text, even this \x00\xff "), posted(4, "r", "c", ""),
		dropped(5, "final", "ann"), closed(6, "semi"), reopened(7, "semi"), undone(8), opened(9, longName, 999999999), opened(10, "final", 0),
		posted(11, "final", "ann", strings.Repeat("\xff", 4096)),
	}
	bodies := []string{
		"1 open final 2", "2 post final ann 34,1", "3 post final a_Z9  any  text, even this \x00\xff ", "4 post r c ",
		"5 drop final ann", "6 close semi", "7 reopen semi", "8 undo", "9 open " + longName + " 999999999", "10 open final 0",
		"11 post final ann " + strings.Repeat("\xff", 4096),
	}
	for i, e := range l {
		longer := text + record(bodies[i])
		gives(t, "the log with "+bodies[i], longer)(office.Append(text, e))
		text = longer
		got, length, err := office.Recover(text)
		want(t, "the events", got, l[:i+1])
		want(t, "the length", length, len(text))
		want(t, "the error", err, api.OK)
	}
	// The bytes are 49, 32, 117, 110, 100 and 111, so a is 50, 82, 199, 309, 409 and 520, and these are 1569.
	gives(t, "a record", "1 undo|05201569\n")(office.Append("", undone(1)))
	got, length, err := office.Recover("")
	want(t, "the events of nothing", got, []api.Event(nil))
	want(t, "the length of nothing", length, 0)
	want(t, "the error of nothing", err, api.OK)
}

// P10.5: the errors of a line behind a log, in their order.
func TestErrorsOfRecover(t *testing.T) {
	for _, row := range []struct {
		what, rest string
		e          api.Errno
	}{
		{"nothing", "", api.OK},
		{"no line feed", "5 undo", api.ErrTorn},
		{"a whole record without its line feed", strings.TrimSuffix(record("5 undo"), "\n"), api.ErrTorn},
		{"one byte", "|", api.ErrTorn},
		{"wrong bytes without a line feed", "x|12345678", api.ErrTorn},
		{"an empty line", "\n", api.ErrSyntax},
		{"only a sum", "12345678\n", api.ErrSyntax},
		{"a bar and seven digits", "|1234567\n", api.ErrSyntax},
		{"no bar", "5 undo 05240000\n", api.ErrSyntax},
		{"seven digits", "5 undo|1234567\n", api.ErrSyntax},
		{"nine digits", "5 undo|123456789\n", api.ErrSyntax},
		{"a letter among the digits", "5 undo|0524176x\n", api.ErrSyntax},
		{"a sign among the digits", "5 undo|+5240176\n", api.ErrSyntax},
		{"a sign among the last digits", "5 undo|0524-176\n", api.ErrSyntax},
		{"a line among the digits", "5 undo|0_240176\n", api.ErrSyntax},
		{"a byte behind the digits", strings.Replace(record("5 undo"), "\n", " \n", 1), api.ErrSyntax},
		{"another end of the line", strings.Replace(record("5 undo"), "\n", "\r\n", 1), api.ErrSyntax},
		{"another sum", "5 undo|00000000\n", api.ErrCheck},
		{"another sum before the body", "x|00000000\n", api.ErrCheck},
		{"the sum before the number", "7 undo|00000000\n", api.ErrCheck},
		{"both parts of a sum exchanged", "5 undo|" + modelSum("5 undo")[4:] + modelSum("5 undo")[:4] + "\n", api.ErrCheck},
		{"the sum of the body and the bar", "5 undo|" + modelSum("5 undo|") + "\n", api.ErrCheck},
		{"no body", record(""), api.ErrSyntax},
		{"a number alone", record("5"), api.ErrSyntax},
		{"a number and a blank", record("5 "), api.ErrSyntax},
		{"no number", record("undo"), api.ErrSyntax},
		{"a blank in front", record(" 5 undo"), api.ErrSyntax},
		{"two blanks", record("5  undo"), api.ErrSyntax},
		{"a blank behind", record("5 undo "), api.ErrSyntax},
		{"a zero in front", record("05 undo"), api.ErrSyntax},
		{"a sign", record("+5 undo"), api.ErrSyntax},
		{"the number 0", record("0 undo"), api.ErrSyntax},
		{"a negative number", record("-5 undo"), api.ErrSyntax},
		{"a number above", record("1001 undo"), api.ErrSyntax},
		{"a number without an end", record(strings.Repeat("5", 100) + " undo"), api.ErrSyntax},
		{"another kind", record("5 Undo"), api.ErrSyntax},
		{"no kind", record("5  final"), api.ErrSyntax},
		{"a question", record("5 rounds"), api.ErrSyntax},
		{"undo with a name", record("5 undo final"), api.ErrSyntax},
		{"open without a value", record("5 open semi"), api.ErrSyntax},
		{"open with two values", record("5 open semi 1 2"), api.ErrSyntax},
		{"open with a value with a zero in front", record("5 open semi 01"), api.ErrSyntax},
		{"open with a negative value", record("5 open semi -1"), api.ErrSyntax},
		{"open with -0", record("5 open semi -0"), api.ErrSyntax},
		{"open with a value of ten digits", record("5 open semi 1000000000"), api.ErrSyntax},
		{"open with no value", record("5 open semi "), api.ErrSyntax},
		{"open without a name", record("5 open  1"), api.ErrSyntax},
		{"a name that is none", record("5 close 1a"), api.ErrSyntax},
		{"a name that is too long", record("5 close " + tooLong), api.ErrSyntax},
		{"close without a name", record("5 close"), api.ErrSyntax},
		{"close with two names", record("5 close final semi"), api.ErrSyntax},
		{"drop with one name", record("5 drop final"), api.ErrSyntax},
		{"drop with a text", record("5 drop final ann "), api.ErrSyntax},
		{"post without a text", record("5 post final ann"), api.ErrSyntax},
		{"post with a bar", record("5 post final ann 1|2"), api.ErrSyntax},
		{"post with a bar at the end", record("5 post final ann |"), api.ErrSyntax},
		{"post with a text that is too long", record("5 post final ann " + strings.Repeat("1", 4097)), api.ErrSyntax},
		{"post without a climber", record("5 post final  1"), api.ErrSyntax},
		{"a body with an error before the number", record("7 undo x"), api.ErrSyntax},
		{"the number before", record("4 undo"), api.ErrOrder},
		{"a number later", record("6 undo"), api.ErrOrder},
		{"the first number again", record("1 undo"), api.ErrOrder},
		{"the greatest number", record("1000 undo"), api.ErrOrder},
	} {
		for _, behind := range []string{"", record("5 undo"), "x", "\n"} {
			if behind != "" && (row.e == api.ErrTorn || row.e == api.OK) {
				continue
			}
			examineTail(t, row.what, four(), row.rest+behind, row.e)
		}
	}
	examineTail(t, "a first number above", nil, record("2 undo"), api.ErrOrder)
	examineTail(t, "a torn beginning", nil, "1 undo", api.ErrTorn)
	examineTail(t, "a second wrong record", []api.Event{undone(1)}, record("1 undo"), api.ErrOrder)
	examineTail(t, "a torn record behind a whole one", append(four(), undone(5)), "6 undo|", api.ErrTorn)
}

// examineTail examines the log of events with something behind it, in all functions that recover it.
func examineTail(t *testing.T, what string, wanted []api.Event, rest string, wantedError api.Errno) {
	t.Helper()
	text := log(wanted)
	l, length, e := office.Recover(text + rest)
	want(t, "the events: "+what, l, wanted)
	want(t, "the length: "+what, length, len(text))
	want(t, "the error: "+what, e, wantedError)
	_, _, e = modelRecover(text + rest)
	want(t, "the error of the model: "+what, e, wantedError)
	if wantedError != api.OK {
		fails(t, "Append: "+what, wantedError)(office.Append(text+rest, api.Event{}))
		fails(t, "Append of the next event: "+what, wantedError)(office.Append(text+rest, undone(len(wanted)+1)))
	}
	if wantedError != api.OK && wantedError != api.ErrTorn {
		s, e := office.Load(text + rest)
		want(t, "the error of Load: "+what, e, wantedError)
		want(t, "the session: "+what, s == nil, true)
	}
}

// P10.5: a log that is cut off anywhere keeps its whole events.
func TestTornLogs(t *testing.T) {
	l := append(four(), closed(5, "final"), undone(6), posted(7, "final", "dan", "1 2"))
	text := log(l)
	for cut := range len(text) + 1 {
		whole := strings.Count(text[:cut], "\n")
		got, length, e := office.Recover(text[:cut])
		want(t, "the events", got, l[:whole])
		want(t, "the length", length, len(log(l[:whole])))
		want(t, "the error", e, when(length < cut, api.ErrTorn))
	}
}

// P10.5: the errors of Append.
func TestErrorsOfAppend(t *testing.T) {
	text := log(four())
	fails(t, "the event", api.ErrKind)(office.Append(text, api.Event{Number: 5}))
	fails(t, "the event before the order", api.ErrName)(office.Append(text, closed(6, "")))
	fails(t, "a number above", api.ErrOrder)(office.Append(text, undone(6)))
	fails(t, "a number below", api.ErrOrder)(office.Append(text, undone(4)))
	fails(t, "a first number above", api.ErrOrder)(office.Append("", undone(2)))
	fails(t, "an event that is not accepted", api.OK)(office.Append(text, closed(5, "semi")))
	fails(t, "a text that is no result", api.OK)(office.Append("", posted(1, "semi", "ann", "x")))
	full := log(turns(1000))
	fails(t, "the number behind the last one", api.ErrRange)(office.Append(full, undone(1001)))
	fails(t, "the last number again", api.ErrOrder)(office.Append(full, undone(1000)))
	gives(t, "the last event", full)(office.Append(log(turns(999)), turns(1000)[999]))
}

// filled returns events with a log of so many bytes.
func filled(size int) []api.Event {
	var l []api.Event
	for length := 0; length < size; {
		e := posted(len(l)+1, "final", "ann", "")
		e.Text = strings.Repeat("x", min(4096, size-length-len(modelRecord(e))))
		if rest := size - length - len(modelRecord(e)); rest > 0 && rest < 100 {
			e.Text = e.Text[100:]
		}
		length += len(modelRecord(e))
		l = append(l, e)
	}
	return l
}

// P10.5: logs of at most so many bytes.
func TestLongLogs(t *testing.T) {
	l := filled(api.MaxLog)
	text := log(l)
	want(t, "the length of the log", len(text), api.MaxLog)
	got, length, e := office.Recover(text)
	want(t, "the error of the longest log", e, api.OK)
	want(t, "the length of the longest log", length, api.MaxLog)
	want(t, "whether the events are the same", same(got, l), true)
	for _, longer := range []string{text + "x", text + "\n", strings.Repeat("\n", api.MaxLog+1)} {
		got, length, e = office.Recover(longer)
		want(t, "the error of a log that is too long", e, api.ErrLong)
		want(t, "no length", length, 0)
		want(t, "no events", got, []api.Event(nil))
		fails(t, "Append", api.ErrLong)(office.Append(longer, api.Event{}))
		_, e = office.Load(longer)
		want(t, "the error of Load", e, api.ErrLong)
	}
	last := l[len(l)-1]
	before := log(l[:len(l)-1])
	appended, e := office.Append(before, last)
	want(t, "the error of the last event", e, api.OK)
	want(t, "whether the log is the longest one", appended == text, true)
	last.Text += "x"
	fails(t, "a byte more", api.ErrLong)(office.Append(before, last))
	last.Number++
	fails(t, "the order before the length", api.ErrOrder)(office.Append(before, last))
	fails(t, "an event behind the longest log", api.ErrLong)(office.Append(text, undone(len(l)+1)))
	fails(t, "the event before the length", api.ErrRange)(office.Append(text, undone(0)))
}

// P10.5: a log has the records of at most so many events.
func TestLogsOfManyEvents(t *testing.T) {
	l := turns(1000)
	examineTail(t, "the most events", l, "", api.OK)
	examineTail(t, "too many events", l, record("1001 undo"), api.ErrSyntax)
	examineTail(t, "the last number again", l, record("1000 undo"), api.ErrOrder)
}

// P10.5: the remainders of long texts.
func TestLongSums(t *testing.T) {
	for _, size := range []int{1, 38, 39, 40, 41, 80, 81, 82, 200, 3000, 4096} {
		for _, letter := range []string{"\x00", "0", "z", "\xff"} {
			e := posted(1, "final", "ann", strings.Repeat(letter, size))
			gives(t, "a log of "+strconv.Itoa(size), modelRecord(e))(office.Append("", e))
		}
	}
}

// P10.5: logs as in the model, with any bytes in the place of others.
func TestLogsLikeModel(t *testing.T) {
	d := draw(5)
	errors := map[api.Errno]int{}
	for range 20000 {
		text := d.spoiledLog()
		l, length, e := office.Recover(text)
		wanted, wantedLength, wantedError := modelRecover(text)
		want(t, "the events", l, wanted)
		want(t, "the length", length, wantedLength)
		want(t, "the error", e, wantedError)
		errors[e]++
		next := d.event(len(l) + 1 + d.Intn(20)/19)
		longer, e := office.Append(text, next)
		wantedLonger, wantedError := modelAppend(text, next)
		want(t, "the longer log", longer, wantedLonger)
		want(t, "the error of the longer log", e, wantedError)
	}
	for _, e := range []api.Errno{api.OK, api.ErrTorn, api.ErrSyntax, api.ErrCheck, api.ErrOrder} {
		want(t, "whether an error was often there", errors[e] > 500, true)
	}
}

// spoiledLog returns a log, or nearly one.
func (d drawing) spoiledLog() string {
	var l []api.Event
	for i := range d.Intn(6) {
		l = append(l, d.event(i+1))
	}
	if d.Intn(9) == 0 && len(l) > 0 {
		i := d.Intn(len(l))
		l = slices.Delete(l, i, i+1)
	}
	text := []byte(log(l))
	for range d.Intn(3) {
		if len(text) == 0 {
			break
		}
		i := d.Intn(len(text))
		switch d.Intn(4) {
		case 0:
			text[i] = d.oneOf("0", "1", " ", "|", "\n", "x", "\xff")[0]
		case 1:
			text = slices.Insert(text, i, d.oneOf("0", " ", "|", "\n")[0])
		case 2:
			text = slices.Delete(text, i, i+1)
		case 3:
			text = text[:i]
		}
	}
	if d.Intn(3) == 0 {
		text = append(text, record(d.body())...)
	}
	return string(text)
}

// body returns a body, or nearly one.
func (d drawing) body() string {
	body := []byte(modelBody(d.event(1 + d.Intn(7))))
	for range d.Intn(2) {
		i := d.Intn(len(body))
		switch d.Intn(3) {
		case 0:
			body[i] = d.oneOf("0", "1", " ", "|", "-", "x")[0]
		case 1:
			body = slices.Insert(body, i, d.oneOf("0", " ", "|", "-", "x")[0])
		case 2:
			body = slices.Delete(body, i, i+1)
		}
	}
	return string(body)
}
