package number

import (
	"math"
	"math/rand"
	"strings"
	"testing"

	"crux/api"
)

// anyTexts are texts of every kind.
func anyTexts() []string {
	texts := []string{"0", "1", "-3/2", string(nines(600)), "1/" + string(nines(600)), "7.123", "1:02.345", "34+", "TOP", "T2 Z1", "- -", "34 / T1 Z1", " / ", "/", ":", ".", "+", "-", "\x00", "\xff\xfe", strings.Repeat("9", 5000), strings.Repeat("/", 300), strings.Repeat(" / ", 1300), strings.Repeat("1/", 600)}
	for a := range wrongNumbers() {
		texts = append(texts, string(a))
	}
	return texts
}

// anyNumbers are integers of every kind.
func anyNumbers() []int {
	return []int{0, 1, -1, 2, 3, 59, 60, 64, 65, 99, 100, 256, 257, 100000, 100001, -100000, -100001, api.MaxNumber, api.MaxNumber + 1, api.MaxTime, api.MaxTime + 1, 2147483646, 2147483647, math.MaxInt64, math.MinInt64}
}

// P1: every function terminates and never panics, and beside an error there are zero values.
func TestAnyTexts(t *testing.T) {
	texts := anyTexts()
	for _, s := range texts {
		a := api.Rat(s)
		IsName(s)
		want(t, "Check twice", Check(a), Check(a))
		_, e := Floor(a)
		want(t, "Floor and Check", e, Check(a))
		Root(a)
		if n, e := ReadClock(s); e != api.OK {
			want(t, "ReadClock beside an error", n, 0)
		}
		if l, n, e := Parse(s); e != api.OK {
			want(t, "Parse beside an error", l, []Ticket(nil))
			want(t, "Parse beside an error", n >= 0, true)
		}
		CheckTicket(Ticket{Discipline: s})
		Print([]Ticket{{Discipline: s}})
		Value([]api.Point{{X: "0", Y: a}, {X: a, Y: "1"}}, a)
		Solve([][]api.Rat{{a}}, []api.Rat{"1"})
		Solve([][]api.Rat{{"1"}}, []api.Rat{a})
		for _, u := range texts {
			b := api.Rat(u)
			for _, f := range []func(a, b api.Rat) (api.Rat, api.Errno){Add, Sub, Mul, Div} {
				x, e := f(a, b)
				want(t, "a number, or an error", Check(x) == api.OK, e == api.OK)
			}
			Order(a, b)
			CheckSpan(span(a, b))
			for _, f := range spanOperations() {
				s, e := f(span(a, b), span(b, a))
				want(t, "a span, or an error", CheckSpan(s) == api.OK, e == api.OK)
			}
		}
	}
}

// P1: the same for numbers.
func TestAnyNumbers(t *testing.T) {
	numbers := anyNumbers()
	for _, x := range numbers {
		Clock(x)
		for _, y := range numbers {
			a, e := Of(x, y)
			want(t, "Of", Check(a) == api.OK, e == api.OK)
			Draw(x, y)
			Shares(x, []int{y, 1})
			Shares(x, []int{y, x})
			for _, discipline := range []string{"lead", "boulder", ""} {
				CheckTicket(Ticket{Discipline: discipline, Hold: x, Top: y})
				CheckTicket(Ticket{Discipline: discipline, Top: x, Zone: y, Plus: true})
				Print([]Ticket{{Discipline: discipline, Top: x, Zone: y}})
			}
			Dot(place(x, y, x), place(y, x, y))
			Cross(place(x, y, x), place(y, x, y))
			Length(place(x, y, 0))
		}
	}
}

// P1: the same for texts that are nearly right.
func TestAlmostRightTexts(t *testing.T) {
	r := rand.New(rand.NewSource(25))
	for range 20000 {
		text := []byte{}
		for range r.Intn(14) {
			text = append(text, "0123456789+-/ :.TZOPx"[r.Intn(21)])
		}
		s := string(text)
		if n, e := ReadClock(s); e == api.OK {
			again, e := Clock(n)
			want(t, "Clock", e, api.OK)
			back, e := ReadClock(again)
			want(t, "ReadClock", []int{back, int(e)}, []int{n, 0})
		}
		if l, _, e := Parse(s); e == api.OK {
			again, e := Print(l)
			want(t, "Print", again, s)
			want(t, "Print", e, api.OK)
		}
		if x, e := Add(api.Rat(s), "0"); e == api.OK {
			want(t, "Add", x, api.Rat(s))
		}
	}
}
