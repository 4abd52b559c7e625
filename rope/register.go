package rope

import (
	"slices"
	"sort"
	"strings"

	"crux/api"
	"crux/check"
	"crux/number"
)

// The kinds of acts.
const (
	buy     = "buy"
	inspect = "inspect"
	fall    = "fall"
	retire  = "retire"
)

// The statuses of items.
const (
	fit     = "fit"
	due     = "due"
	retired = "retired"
)

// gear is what the acts that count have made of an item.
type gear struct {
	rule      Rule
	bought    int // a day, as the next one
	inspected int
	falls     int
	isRetired bool
}

// deed returns what an act that counts makes of an item. Of a buy the item is still the zero value.
type deed func(g gear, a Act) gear

// CheckRegister returns the first error of rules and acts, and the number of the act that has it.
func CheckRegister(r []Rule, l []Act) (int, api.Errno) {
	if e := check.First(checkRules(r), check.If(len(l) > api.MaxList, api.ErrMany)); e != api.OK {
		return 0, e
	}
	deeds := deedsBy(r)
	return check.Find(l, func(i int, a Act) api.Errno {
		return check.First(
			checkDay(a.Day),
			check.If(i > 0 && a.Day < l[i-1].Day, api.ErrOrder),
			check.If(deeds[a.Kind] == nil, api.ErrKind),
			checkName(a.Item),
			a.checkOf(r),
			a.checkValue(),
		)
	})
}

// Aside returns the acts that are set aside.
func Aside(r []Rule, l []Act) ([]int, api.Errno) {
	if _, e := CheckRegister(r, l); e != api.OK {
		return nil, e
	}
	_, aside := follow(r, l)
	return aside, api.OK
}

// Status returns the status of an item on a day.
func Status(r []Rule, l []Act, item string, day int) (string, api.Errno) {
	g, e := gearOn(r, l, item, day)
	if e != api.OK {
		return "", e
	}
	return g.status(day), api.OK
}

// Items returns the items with a status on a day.
func Items(r []Rule, l []Act, status string, day int) ([]string, api.Errno) {
	_, e := CheckRegister(r, l)
	known := slices.Contains([]string{fit, due, retired}, status)
	if e = check.First(e, check.If(!known, api.ErrKind), checkDay(day)); e != api.OK {
		return nil, e
	}
	items, _ := follow(r, until(l, day))
	var names []string
	for name, g := range items {
		if g.status(day) == status {
			names = append(names, name)
		}
	}
	slices.SortFunc(names, func(a, b string) int { return strings.Compare(a, b) })
	return names, api.OK
}

// Next returns the first day after a day on which an item has another status, if nothing is done to it.
func Next(r []Rule, l []Act, item string, day int) (int, api.Errno) {
	g, e := gearOn(r, l, item, day)
	if e = check.First(e, check.If(g.status(day) == retired, api.ErrNone)); e != api.OK {
		return 0, e
	}
	return g.change(day), api.OK
}

func checkRules(r []Rule) api.Errno {
	if len(r) > api.MaxList {
		return api.ErrMany
	}
	return check.Each(r, func(i int, rule Rule) api.Errno {
		_, taken := ruleOf(r[:i], rule.Kind)
		return check.First(
			checkName(rule.Kind),
			check.If(taken, api.ErrTwice),
			check.Range(rule.Life, 1, api.MaxDay),
			check.Range(rule.Interval, 1, api.MaxDay),
			check.Range(rule.Falls, 0, api.MaxNumber),
		)
	})
}

func checkName(s string) api.Errno {
	return check.If(!number.IsName(s), api.ErrName)
}

func checkDay(day int) api.Errno {
	return check.Range(day, 0, api.MaxDay)
}

// ruleOf returns the rule of a kind of equipment, and whether there is one.
func ruleOf(r []Rule, kind string) (Rule, bool) {
	i := slices.IndexFunc(r, func(rule Rule) bool { return rule.Kind == kind })
	if i < 0 {
		return Rule{}, false
	}
	return r[i], true
}

func (a Act) checkOf(r []Rule) api.Errno {
	if a.Kind != buy {
		return check.If(a.Of != "", api.ErrForm)
	}
	_, known := ruleOf(r, a.Of)
	return check.If(!known, api.ErrUnknown)
}

func (a Act) checkValue() api.Errno {
	if a.Kind == fall {
		return check.Range(a.Value, 1, api.MaxNumber)
	}
	return check.Range(a.Value, 0, 0)
}

// deedsBy returns what acts do, by their kinds.
func deedsBy(r []Rule) map[string]deed {
	return map[string]deed{
		buy: func(_ gear, a Act) gear {
			rule, _ := ruleOf(r, a.Of)
			return gear{rule: rule, bought: a.Day, inspected: a.Day}
		},
		inspect: func(g gear, a Act) gear {
			g.inspected = a.Day
			return g
		},
		fall: func(g gear, a Act) gear {
			g.falls += a.Value
			return g
		},
		retire: func(g gear, _ Act) gear {
			g.isRetired = true
			return g
		},
	}
}

// follow returns the items that are bought, by their names, and the numbers of the acts that are set aside.
func follow(r []Rule, l []Act) (map[string]gear, []int) {
	deeds := deedsBy(r)
	items := map[string]gear{}
	var aside []int
	for i, a := range l {
		g, bought := items[a.Item]
		if bought == (a.Kind == buy) || bought && g.status(a.Day) == retired {
			aside = append(aside, i)
			continue
		}
		items[a.Item] = deeds[a.Kind](g, a)
	}
	return items, aside
}

// until returns the acts that are not after a day.
func until(l []Act, day int) []Act {
	return l[:sort.Search(len(l), func(i int) bool { return l[i].Day > day })]
}

// gearOn returns what has become of an item up to a day.
func gearOn(r []Rule, l []Act, item string, day int) (gear, api.Errno) {
	_, e := CheckRegister(r, l)
	if e = check.First(e, checkName(item), checkDay(day)); e != api.OK {
		return gear{}, e
	}
	items, _ := follow(r, until(l, day))
	g, bought := items[item]
	return g, check.If(!bought, api.ErrUnknown)
}

// status returns the status on a day, if no act after it counts.
func (g gear) status(day int) string {
	switch {
	case g.isRetired || day >= g.bought+g.rule.Life || g.falls > g.rule.Falls:
		return retired
	case day >= g.inspected+g.rule.Interval:
		return due
	}
	return fit
}

// change returns the first day after a day on which the status is another one. There is one, as nothing is retired later than its rule says.
func (g gear) change(day int) int {
	now := g.status(day)
search:
	for {
		day++
		if g.status(day) != now {
			break search
		}
	}
	return day
}
