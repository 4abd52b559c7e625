package number

import (
	"math"
	"slices"
	"strings"
	"testing"

	"crux/api"
)

func lead(hold int, plus bool) Ticket {
	return Ticket{Discipline: "lead", Hold: hold, Plus: plus}
}

func boulder(top, zone int) Ticket {
	return Ticket{Discipline: "boulder", Top: top, Zone: zone}
}

func top() Ticket {
	return Ticket{Discipline: "lead", Top: 1}
}

// P1.5: the error of a ticket.
func TestCheckTicket(t *testing.T) {
	for _, row := range []struct {
		ticket Ticket
		e      api.Errno
	}{
		{lead(0, false), api.OK},
		{lead(0, true), api.OK},
		{lead(64, true), api.OK},
		{top(), api.OK},
		{boulder(0, 0), api.OK},
		{boulder(0, 99), api.OK},
		{boulder(99, 99), api.OK},
		{boulder(99, 1), api.OK},
		{Ticket{}, api.ErrKind},
		{Ticket{Discipline: "speed"}, api.ErrKind},
		{Ticket{Discipline: "Lead"}, api.ErrKind},
		{Ticket{Discipline: "lead ", Hold: -1}, api.ErrKind},
		{lead(-1, false), api.ErrRange},
		{lead(65, false), api.ErrRange},
		{lead(math.MinInt64, true), api.ErrRange},
		{Ticket{Discipline: "lead", Top: 2}, api.ErrRange},
		{Ticket{Discipline: "lead", Top: -1}, api.ErrRange},
		{Ticket{Discipline: "lead", Zone: 1}, api.ErrRange},
		{Ticket{Discipline: "lead", Zone: -1}, api.ErrRange},
		{Ticket{Discipline: "lead", Top: 1, Plus: true, Zone: 1}, api.ErrRange},
		{Ticket{Discipline: "lead", Top: 1, Hold: 65}, api.ErrRange},
		{Ticket{Discipline: "lead", Top: 1, Hold: 1}, api.ErrForm},
		{Ticket{Discipline: "lead", Top: 1, Hold: 64}, api.ErrForm},
		{Ticket{Discipline: "lead", Top: 1, Plus: true}, api.ErrForm},
		{Ticket{Discipline: "boulder", Hold: 1}, api.ErrRange},
		{Ticket{Discipline: "boulder", Hold: -1, Plus: true}, api.ErrRange},
		{boulder(-1, 1), api.ErrRange},
		{boulder(100, 100), api.ErrRange},
		{boulder(0, -1), api.ErrRange},
		{boulder(0, 100), api.ErrRange},
		{boulder(1, 100), api.ErrRange},
		{Ticket{Discipline: "boulder", Plus: true}, api.ErrForm},
		{Ticket{Discipline: "boulder", Plus: true, Top: 1, Zone: 1}, api.ErrForm},
		{boulder(1, 0), api.ErrForm},
		{boulder(1, 2), api.ErrForm},
		{boulder(98, 99), api.ErrForm},
	} {
		want(t, "CheckTicket", CheckTicket(row.ticket), row.e)
		text, e := Print([]Ticket{row.ticket})
		want(t, "Print of a ticket", e, row.e)
		want(t, "Print of a ticket", text == "", row.e != api.OK)
	}
}

// P1.5: texts of tickets, and the tickets with them.
func TestTickets(t *testing.T) {
	for _, row := range []struct {
		tickets []Ticket
		s       string
	}{
		{[]Ticket{lead(34, true), top()}, "34+ / TOP"},
		{[]Ticket{lead(0, false)}, "0"},
		{[]Ticket{lead(0, true), lead(64, false), lead(10, true), lead(9, false)}, "0+ / 64 / 10+ / 9"},
		{[]Ticket{top(), top()}, "TOP / TOP"},
		{[]Ticket{boulder(2, 1), boulder(0, 3), boulder(0, 0)}, "T2 Z1 / - Z3 / - -"},
		{[]Ticket{boulder(99, 99), boulder(10, 1)}, "T99 Z99 / T10 Z1"},
		{slices.Repeat([]Ticket{boulder(99, 98)}, 256), strings.TrimSuffix(strings.Repeat("T99 Z98 / ", 256), " / ")},
	} {
		s, e := Print(row.tickets)
		want(t, "Print", s, row.s)
		want(t, "Print", e, api.OK)
		l, n, e := Parse(row.s)
		want(t, "Parse of "+row.s, l, row.tickets)
		want(t, "Parse of "+row.s, n, 0)
		want(t, "Parse of "+row.s, e, api.OK)
	}
}

// P1.5: the errors of tickets to be printed, in their order.
func TestPrintErrors(t *testing.T) {
	for _, row := range []struct {
		tickets []Ticket
		e       api.Errno
	}{
		{nil, api.ErrEmpty},
		{[]Ticket{}, api.ErrEmpty},
		{make([]Ticket, 257), api.ErrMany},
		{slices.Repeat([]Ticket{top()}, 257), api.ErrMany},
		{[]Ticket{lead(1, false), boulder(1, 1)}, api.ErrKind},
		{[]Ticket{boulder(1, 1), boulder(1, 1), top()}, api.ErrKind},
		{[]Ticket{lead(1, false), boulder(1, 2)}, api.ErrForm},
		{[]Ticket{lead(1, false), boulder(1, 100)}, api.ErrRange},
		{[]Ticket{lead(1, false), boulder(1, 1), lead(65, false)}, api.ErrKind},
		{[]Ticket{lead(1, false), lead(65, false), boulder(1, 1)}, api.ErrRange},
		{[]Ticket{lead(1, false), {}}, api.ErrKind},
	} {
		s, e := Print(row.tickets)
		want(t, "Print", s, "")
		want(t, "Print", e, row.e)
	}
}

// P1.5: the errors of texts of tickets, in their order, with the number of the ticket.
func TestParseErrors(t *testing.T) {
	for _, row := range []struct {
		s string
		n int
		e api.Errno
	}{
		{"", 0, api.ErrEmpty},
		{strings.Repeat("1", 4097), 0, api.ErrLong},
		{strings.Repeat("1", 4096), 1, api.ErrSyntax},
		{"T1 Z2", 1, api.ErrForm},
		{"T1 -", 1, api.ErrForm},
		{"T5 Z1 / T1 -", 2, api.ErrForm},
		{"34 / T1 Z1", 2, api.ErrKind},
		{"34 / TOP / - -", 3, api.ErrKind},
		{"- - / 0", 2, api.ErrKind},
		{"34 / T1 Z2", 2, api.ErrForm},
		{"34 / T1 Z100", 2, api.ErrRange},
		{"65", 1, api.ErrRange},
		{"999999999", 1, api.ErrRange},
		{"999999999+", 1, api.ErrRange},
		{"1000000000", 1, api.ErrSyntax},
		{"T100 Z1", 1, api.ErrRange},
		{"T1 Z100", 1, api.ErrRange},
		{"T999999999 Z999999999", 1, api.ErrRange},
		{"T1000000000 Z1", 1, api.ErrSyntax},
		{"- Z1000000000", 1, api.ErrSyntax},
		{"T0 Z1", 1, api.ErrSyntax},
		{"- Z0", 1, api.ErrSyntax},
		{"T01 Z1", 1, api.ErrSyntax},
		{"T1 Z01", 1, api.ErrSyntax},
		{"01", 1, api.ErrSyntax},
		{"00", 1, api.ErrSyntax},
		{"+1", 1, api.ErrSyntax},
		{"-1", 1, api.ErrSyntax},
		{"+", 1, api.ErrSyntax},
		{"1++", 1, api.ErrSyntax},
		{"1 +", 1, api.ErrSyntax},
		{"TOP+", 1, api.ErrSyntax},
		{"top", 1, api.ErrSyntax},
		{"TOP ", 1, api.ErrSyntax},
		{" 1", 1, api.ErrSyntax},
		{"-", 1, api.ErrSyntax},
		{"- ", 1, api.ErrSyntax},
		{" -", 1, api.ErrSyntax},
		{"-  -", 1, api.ErrSyntax},
		{"--", 1, api.ErrSyntax},
		{"- - -", 1, api.ErrSyntax},
		{"T1", 1, api.ErrSyntax},
		{"Z1", 1, api.ErrSyntax},
		{"Z1 T1", 1, api.ErrSyntax},
		{"T Z1", 1, api.ErrSyntax},
		{"T1 Z", 1, api.ErrSyntax},
		{"T1  Z1", 1, api.ErrSyntax},
		{"T1\tZ1", 1, api.ErrSyntax},
		{"T1Z1", 1, api.ErrSyntax},
		{"t1 z1", 1, api.ErrSyntax},
		{"T+1 Z1", 1, api.ErrSyntax},
		{"T-1 Z1", 1, api.ErrSyntax},
		{"T1+ Z1", 1, api.ErrSyntax},
		{"\u0661", 1, api.ErrSyntax},
		{"3 /4", 1, api.ErrSyntax},
		{"3/ 4", 1, api.ErrSyntax},
		{"3/4", 1, api.ErrSyntax},
		{"3 / ", 2, api.ErrSyntax},
		{" / 3", 1, api.ErrSyntax},
		{" / ", 1, api.ErrSyntax},
		{"3 /  / 4", 2, api.ErrSyntax},
		{"3 / / 4", 2, api.ErrSyntax},
		{"3 / 4\n", 2, api.ErrSyntax},
		{"65 / x", 1, api.ErrRange},
		{"x / 65", 1, api.ErrSyntax},
		{"1 / - - / x", 2, api.ErrKind},
		{strings.Repeat("1 / ", 256) + "1", 257, api.ErrMany},
		{strings.Repeat("1 / ", 256) + "65", 257, api.ErrMany},
		{strings.Repeat("1 / ", 256) + "- -", 257, api.ErrMany},
		{strings.Repeat("1 / ", 256) + "x", 257, api.ErrSyntax},
		{strings.Repeat("1 / ", 256) + "1 / x", 257, api.ErrMany},
		{strings.Repeat("1 / ", 255) + "65", 256, api.ErrRange},
	} {
		l, n, e := Parse(row.s)
		want(t, "Parse of "+row.s, l, []Ticket(nil))
		want(t, "Parse of "+row.s, n, row.n)
		want(t, "Parse of "+row.s, e, row.e)
	}
}
