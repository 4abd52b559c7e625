package number

import (
	"strconv"
	"strings"

	"crux/api"
	"crux/check"
)

// separator stands between the texts of two tickets.
const separator = " / "

// Ticket is what a judge writes for a climber: of lead a hold, whether there is a plus, or the top; of boulder the attempts in which the top and the zone were reached.
type Ticket struct {
	Discipline string
	Hold       int
	Plus       bool
	Top        int
	Zone       int
}

// discipline is what is done with the tickets of one discipline. The texts of different ones are never the same.
type discipline struct {
	check func(t Ticket) api.Errno
	print func(t Ticket) string
	parse func(s string) (Ticket, bool)
}

func disciplines() map[string]discipline {
	return map[string]discipline{
		"lead":    {checkLead, printLead, parseLead},
		"boulder": {checkBoulder, printBoulder, parseBoulder},
	}
}

// CheckTicket returns the first error of a ticket, or OK.
func CheckTicket(t Ticket) api.Errno {
	d, ok := disciplines()[t.Discipline]
	if !ok {
		return api.ErrKind
	}
	return d.check(t)
}

// Print returns the text of tickets.
func Print(l []Ticket) (string, api.Errno) {
	e := check.First(check.If(len(l) == 0, api.ErrEmpty), check.If(len(l) > api.MaxList, api.ErrMany))
	if e != api.OK {
		return "", e
	}
	texts := []string{}
	for _, t := range l {
		e := check.First(CheckTicket(t), check.If(t.Discipline != l[0].Discipline, api.ErrKind))
		if e != api.OK {
			return "", e
		}
		texts = append(texts, disciplines()[t.Discipline].print(t))
	}
	return strings.Join(texts, separator), api.OK
}

// Parse returns the tickets with a text.
func Parse(s string) ([]Ticket, int, api.Errno) {
	e := check.First(check.If(len(s) > api.MaxText, api.ErrLong), check.If(s == "", api.ErrEmpty))
	if e != api.OK {
		return nil, 0, e
	}
	tickets := []Ticket{}
	for i, text := range strings.Split(s, separator) {
		t, ok := parseTicket(text)
		if !ok {
			return nil, i + 1, api.ErrSyntax
		}
		tickets = append(tickets, t)
		e := check.First(check.If(len(tickets) > api.MaxList, api.ErrMany), CheckTicket(t), check.If(t.Discipline != tickets[0].Discipline, api.ErrKind))
		if e != api.OK {
			return nil, i + 1, e
		}
	}
	return tickets, 0, api.OK
}

// parseTicket returns the ticket with a text, whose numbers may be too large, and whether it is one.
func parseTicket(s string) (Ticket, bool) {
	known := disciplines()
	for _, name := range []string{"lead", "boulder"} {
		if t, ok := known[name].parse(s); ok {
			return t, true
		}
	}
	return Ticket{}, false
}

func checkLead(t Ticket) api.Errno {
	inRange := t.Hold >= 0 && t.Hold <= api.MaxHolds && t.Top >= 0 && t.Top <= 1 && t.Zone == 0
	more := t.Top == 1 && (t.Plus || t.Hold > 0)
	return check.First(check.If(!inRange, api.ErrRange), check.If(more, api.ErrForm))
}

func printLead(t Ticket) string {
	switch {
	case t.Top == 1:
		return "TOP"
	case t.Plus:
		return strconv.Itoa(t.Hold) + "+"
	}
	return strconv.Itoa(t.Hold)
}

func parseLead(s string) (Ticket, bool) {
	if s == "TOP" {
		return Ticket{Discipline: "lead", Top: 1}, true
	}
	digits, plus := strings.CutSuffix(s, "+")
	if !isShortInteger(digits) {
		return Ticket{}, false
	}
	hold, _ := strconv.Atoi(digits)
	return Ticket{Discipline: "lead", Hold: hold, Plus: plus}, true
}

func checkBoulder(t Ticket) api.Errno {
	inRange := t.Hold == 0 && isAttempt(t.Top) && isAttempt(t.Zone)
	wrong := t.Plus || t.Top > 0 && (t.Zone == 0 || t.Zone > t.Top)
	return check.First(check.If(!inRange, api.ErrRange), check.If(wrong, api.ErrForm))
}

func isAttempt(n int) bool {
	return n >= 0 && n <= api.MaxAttempts
}

func printBoulder(t Ticket) string {
	return printAttempt("T", t.Top) + " " + printAttempt("Z", t.Zone)
}

func printAttempt(letter string, n int) string {
	if n == 0 {
		return "-"
	}
	return letter + strconv.Itoa(n)
}

func parseBoulder(s string) (Ticket, bool) {
	first, second, _ := strings.Cut(s, " ")
	top, topOK := parseAttempt("T", first)
	zone, zoneOK := parseAttempt("Z", second)
	if !topOK || !zoneOK {
		return Ticket{}, false
	}
	return Ticket{Discipline: "boulder", Top: top, Zone: zone}, true
}

func parseAttempt(letter, s string) (int, bool) {
	if s == "-" {
		return 0, true
	}
	digits, ok := strings.CutPrefix(s, letter)
	if !ok || digits == "0" || !isShortInteger(digits) {
		return 0, false
	}
	n, _ := strconv.Atoi(digits)
	return n, true
}
