package rope_test

import (
	"cmp"
	"math"
	"math/rand"
	"slices"
	"strconv"
	"strings"
	"testing"

	"crux/api"
	"crux/rope"
)

func buy(day int, item, of string) rope.Act {
	return rope.Act{Day: day, Kind: "buy", Item: item, Of: of}
}

func inspect(day int, item string) rope.Act {
	return rope.Act{Day: day, Kind: "inspect", Item: item}
}

func fall(day int, item string, value int) rope.Act {
	return rope.Act{Day: day, Kind: "fall", Item: item, Value: value}
}

func retire(day int, item string) rope.Act {
	return rope.Act{Day: day, Kind: "retire", Item: item}
}

// rules has the rule of the chapter's example, and another one.
func rules() []rope.Rule {
	return []rope.Rule{{Kind: "rope", Life: 100, Interval: 30, Falls: 200}, {Kind: "sling", Life: 10, Interval: 20, Falls: 0}}
}

// acts is the register of the chapter's example.
func acts() []rope.Act {
	return []rope.Act{buy(0, "r", "rope"), fall(20, "r", 150), inspect(25, "r"), fall(40, "r", 60)}
}

type wrongRegister struct {
	name string
	r    []rope.Rule
	l    []rope.Act
	n    int
	e    api.Errno
}

func wrongRegisters() []wrongRegister {
	long := strings.Repeat("a", 25)
	var many []rope.Rule
	for i := range 257 {
		many = append(many, rope.Rule{Kind: "k" + strconv.Itoa(i), Life: 1, Interval: 1})
	}
	wrong := rope.Act{Day: -1}
	l := []wrongRegister{
		{"257 rules", many, []rope.Act{wrong}, 0, api.ErrMany},
		{"257 rules of nothing", make([]rope.Rule, 257), nil, 0, api.ErrMany},
		{"257 acts", rules(), slices.Repeat([]rope.Act{buy(0, "r", "rope")}, 257), 0, api.ErrMany},
		{"257 wrong acts", nil, make([]rope.Act, 257), 0, api.ErrMany},
		{"a rule with an error ahead of 257 acts", make([]rope.Rule, 1), make([]rope.Act, 257), 0, api.ErrName},
	}
	for name, row := range map[string]struct {
		rule rope.Rule
		e    api.Errno
	}{
		"a rule of nothing":                   {rope.Rule{}, api.ErrName},
		"a kind that is no name":              {rope.Rule{Kind: "1", Life: 1, Interval: 1}, api.ErrName},
		"a kind that is too long":             {rope.Rule{Kind: long, Life: 1, Interval: 1}, api.ErrName},
		"a kind that is no name, and no life": {rope.Rule{Kind: "a b"}, api.ErrName},
		"a kind twice":                        {rope.Rule{Kind: "sling", Life: 1, Interval: 1}, api.ErrTwice},
		"a kind twice, and no life":           {rope.Rule{Kind: "rope"}, api.ErrTwice},
		"no life":                             {rope.Rule{Kind: "a", Interval: 1}, api.ErrRange},
		"a negative life":                     {rope.Rule{Kind: "a", Life: -1, Interval: 1}, api.ErrRange},
		"a life that is too long":             {rope.Rule{Kind: "a", Life: 100000, Interval: 1}, api.ErrRange},
		"no interval":                         {rope.Rule{Kind: "a", Life: 1}, api.ErrRange},
		"a negative interval":                 {rope.Rule{Kind: "a", Life: 1, Interval: math.MinInt}, api.ErrRange},
		"an interval that is too long":        {rope.Rule{Kind: "a", Life: 1, Interval: 100000}, api.ErrRange},
		"falls below 0":                       {rope.Rule{Kind: "a", Life: 1, Interval: 1, Falls: -1}, api.ErrRange},
		"falls that are too great":            {rope.Rule{Kind: "a", Life: 1, Interval: 1, Falls: 1000000000}, api.ErrRange},
	} {
		l = append(l, wrongRegister{name, append(rules(), row.rule, rope.Rule{}), []rope.Act{wrong}, 0, row.e})
	}
	for name, row := range map[string]struct {
		act rope.Act
		e   api.Errno
	}{
		"a day below 0":                               {rope.Act{Day: -1}, api.ErrRange},
		"the first day of all":                        {inspect(math.MinInt, "r"), api.ErrRange},
		"a day that is too late":                      {inspect(100000, ""), api.ErrRange},
		"the last day of all":                         {inspect(math.MaxInt, "r"), api.ErrRange},
		"a day before the last one":                   {rope.Act{Day: 39}, api.ErrOrder},
		"a day before the last one, of a right act":   {inspect(39, "r"), api.ErrOrder},
		"a day at first":                              {inspect(0, "r"), api.ErrOrder},
		"no kind":                                     {rope.Act{Day: 40}, api.ErrKind},
		"a kind in capitals":                          {rope.Act{Day: 40, Kind: "Buy", Item: "s", Of: "rope"}, api.ErrKind},
		"a status as a kind":                          {rope.Act{Day: 40, Kind: "retired", Item: "r"}, api.ErrKind},
		"a kind that is none of an item that is none": {rope.Act{Day: 40, Kind: "sell"}, api.ErrKind},
		"no item":                                     {buy(40, "", ""), api.ErrName},
		"an item that is no name":                     {fall(40, "1", 0), api.ErrName},
		"an item that is too long":                    {retire(40, long), api.ErrName},
		"an item that is no name, with an Of":         {rope.Act{Day: 40, Kind: "inspect", Item: "r ", Of: "rope"}, api.ErrName},
		"a buy of no kind":                            {buy(40, "s", ""), api.ErrUnknown},
		"a buy of an unknown kind":                    {rope.Act{Day: 40, Kind: "buy", Item: "s", Of: "Rope", Value: 1}, api.ErrUnknown},
		"a buy with a value":                          {rope.Act{Day: 40, Kind: "buy", Item: "s", Of: "rope", Value: 1}, api.ErrRange},
		"an inspection with an Of":                    {rope.Act{Day: 40, Kind: "inspect", Item: "r", Of: "rope", Value: 1}, api.ErrForm},
		"a fall with an Of":                           {rope.Act{Day: 40, Kind: "fall", Item: "r", Of: "rope"}, api.ErrForm},
		"an end with an Of":                           {rope.Act{Day: 40, Kind: "retire", Item: "r", Of: "x"}, api.ErrForm},
		"an inspection with a value":                  {rope.Act{Day: 40, Kind: "inspect", Item: "r", Value: -1}, api.ErrRange},
		"an end with a value":                         {rope.Act{Day: 40, Kind: "retire", Item: "r", Value: 1}, api.ErrRange},
		"a fall without a value":                      {fall(40, "r", 0), api.ErrRange},
		"a fall below 0":                              {fall(40, "r", -1), api.ErrRange},
		"a fall that is too great":                    {fall(40, "r", 1000000000), api.ErrRange},
		"the greatest fall of all":                    {fall(40, "r", math.MaxInt), api.ErrRange},
	} {
		l = append(l, wrongRegister{name, rules(), append(acts(), row.act, wrong), 4, row.e})
	}
	return append(l,
		wrongRegister{"the first act", rules(), []rope.Act{wrong, rope.Act{}}, 0, api.ErrRange},
		wrongRegister{"a buy without rules", nil, acts(), 0, api.ErrUnknown},
		wrongRegister{"the last act of 256", rules(), append(slices.Repeat([]rope.Act{inspect(9, "r")}, 255), inspect(8, "r")), 255, api.ErrOrder},
	)
}

// P4.4: the errors of registers, in their order, beside zero values and ahead of those of other arguments.
func TestWrongRegisters(t *testing.T) {
	for _, row := range wrongRegisters() {
		n, e := rope.CheckRegister(row.r, row.l)
		want(t, row.name, []any{n, e}, []any{row.n, row.e})
		aside, e := rope.Aside(row.r, row.l)
		want(t, row.name+": Aside", []any{len(aside), e}, []any{0, row.e})
		for _, item := range []string{"r", ""} {
			for _, day := range []int{10, -1} {
				status, e := rope.Status(row.r, row.l, item, day)
				want(t, row.name+": Status", []any{status, e}, []any{"", row.e})
				next, e := rope.Next(row.r, row.l, item, day)
				want(t, row.name+": Next", []any{next, e}, []any{0, row.e})
				items, e := rope.Items(row.r, row.l, item, day)
				want(t, row.name+": Items", []any{len(items), e}, []any{0, row.e})
			}
		}
	}
}

// P4.4: registers without errors.
func TestCheckRegister(t *testing.T) {
	name := strings.Repeat("a", 24)
	var many []rope.Rule
	for i := range 256 {
		many = append(many, rope.Rule{Kind: "k" + strconv.Itoa(i), Life: 1, Interval: 1})
	}
	for what, row := range map[string]struct {
		r []rope.Rule
		l []rope.Act
	}{
		"of the chapter":        {rules(), acts()},
		"nothing":               {nil, nil},
		"no rules":              {nil, []rope.Act{inspect(0, "r"), fall(1, "r", 1), retire(1, "r")}},
		"256 rules":             {many, []rope.Act{buy(0, "r", "k255")}},
		"256 acts":              {rules(), slices.Repeat([]rope.Act{buy(0, "r", "rope")}, 256)},
		"the least rule":        {[]rope.Rule{{Kind: "a", Life: 1, Interval: 1}}, nil},
		"the greatest rule":     {[]rope.Rule{{Kind: name, Life: 99999, Interval: 99999, Falls: 999999999}}, nil},
		"the last day":          {rules(), []rope.Act{buy(99999, name, "rope")}},
		"the least fall":        {rules(), []rope.Act{fall(0, "r", 1)}},
		"the greatest fall":     {rules(), []rope.Act{fall(0, "r", 999999999)}},
		"acts of the same day":  {rules(), []rope.Act{buy(5, "r", "rope"), inspect(5, "r"), buy(5, "s", "sling")}},
		"acts to be set aside":  {rules(), []rope.Act{inspect(5, "r"), buy(5, "r", "rope"), buy(5, "r", "sling")}},
		"items that are kinds":  {rules(), []rope.Act{buy(5, "rope", "sling"), buy(5, "buy", "rope")}},
		"kinds in other cases":  {append(rules(), rope.Rule{Kind: "Rope", Life: 1, Interval: 1}), []rope.Act{buy(5, "r", "Rope")}},
		"acts that are far off": {rules(), []rope.Act{buy(0, "r", "rope"), retire(99999, "r")}},
	} {
		n, e := rope.CheckRegister(row.r, row.l)
		want(t, what, []any{n, e}, []any{0, api.OK})
	}
}

// P4.4: the errors of items, days and statuses.
func TestWrongDays(t *testing.T) {
	for _, row := range []struct {
		name         string
		item         string
		day          int
		status, next api.Errno
	}{
		{"no name", "", 10, api.ErrName, api.ErrName},
		{"no name on no day", "r ", -1, api.ErrName, api.ErrName},
		{"a name that is too long", strings.Repeat("r", 25), 10, api.ErrName, api.ErrName},
		{"a day below 0", "r", -1, api.ErrRange, api.ErrRange},
		{"a day that is too late", "r", 100000, api.ErrRange, api.ErrRange},
		{"the first day of all", "r", math.MinInt, api.ErrRange, api.ErrRange},
		{"the last day of all", "s", math.MaxInt, api.ErrRange, api.ErrRange},
		{"an unknown item", "s", 10, api.ErrUnknown, api.ErrUnknown},
		{"an unknown item in another case", "R", 10, api.ErrUnknown, api.ErrUnknown},
		{"an item that is bought later", "t", 69, api.ErrUnknown, api.ErrUnknown},
		{"the day on which it is bought", "t", 70, api.OK, api.OK},
		{"an item that was not bought when something was done", "u", 80, api.ErrUnknown, api.ErrUnknown},
		{"a retired item", "r", 40, api.OK, api.ErrNone},
		{"a retired item on the last day", "r", 99999, api.OK, api.ErrNone},
	} {
		l := append(acts(), buy(70, "t", "rope"), inspect(75, "u"))
		status, e := rope.Status(rules(), l, row.item, row.day)
		want(t, row.name+": Status", []any{status != "", e}, []any{row.status == api.OK, row.status})
		next, e := rope.Next(rules(), l, row.item, row.day)
		want(t, row.name+": Next", []any{next != 0, e}, []any{row.next == api.OK, row.next})
	}
	for _, row := range []struct {
		status string
		day    int
		e      api.Errno
	}{
		{"", 10, api.ErrKind},
		{"Fit", 10, api.ErrKind},
		{"retire", -1, api.ErrKind},
		{"due ", math.MaxInt, api.ErrKind},
		{"fit", -1, api.ErrRange},
		{"due", 100000, api.ErrRange},
		{"retired", math.MinInt, api.ErrRange},
		{"fit", 0, api.OK},
		{"fit", 99999, api.OK},
	} {
		items, e := rope.Items(rules(), acts(), row.status, row.day)
		want(t, "Items of "+row.status, []any{len(items) > 0, e}, []any{row.e == api.OK && row.day == 0, row.e})
	}
}

// P4.4: Status and Next, day by day.
func TestStatus(t *testing.T) {
	type change struct {
		day    int
		status string
	}
	without := acts()[:3]
	for _, row := range []struct {
		name    string
		l       []rope.Act
		item    string
		changes []change
	}{
		{"of the chapter", acts(), "r", []change{{0, "fit"}, {40, "retired"}}},
		{"of the chapter without the second fall", without, "r", []change{{0, "fit"}, {55, "due"}, {100, "retired"}}},
		{"no act but the buy", []rope.Act{buy(5, "r", "rope")}, "r", []change{{5, "fit"}, {35, "due"}, {105, "retired"}}},
		{"a life that is shorter than the interval", []rope.Act{buy(5, "s", "sling")}, "s", []change{{5, "fit"}, {15, "retired"}}},
		{"no falls at all", []rope.Act{buy(5, "s", "sling"), fall(6, "s", 1)}, "s", []change{{5, "fit"}, {6, "retired"}}},
		{"as many falls as there may be", append(without[:3:3], fall(30, "r", 50)), "r", []change{{0, "fit"}, {55, "due"}, {100, "retired"}}},
		{"one more", append(without[:3:3], fall(30, "r", 51)), "r", []change{{0, "fit"}, {30, "retired"}}},
		{"due until it is inspected", append(without[:3:3], inspect(60, "r")), "r", []change{{0, "fit"}, {55, "due"}, {60, "fit"}, {90, "due"}, {100, "retired"}}},
		{"an inspection on the day", append(without[:3:3], inspect(55, "r")), "r", []change{{0, "fit"}, {85, "due"}, {100, "retired"}}},
		{"retired by an act", append(without[:3:3], retire(57, "r")), "r", []change{{0, "fit"}, {55, "due"}, {57, "retired"}}},
		{"retired on the day of the buy", []rope.Act{buy(7, "r", "rope"), retire(7, "r")}, "r", []change{{7, "retired"}}},
		{"not bought again", []rope.Act{buy(7, "r", "rope"), retire(8, "r"), buy(9, "r", "rope"), buy(90, "r", "rope")}, "r", []change{{7, "fit"}, {8, "retired"}}},
		{"a second buy of another kind", []rope.Act{buy(7, "r", "rope"), buy(9, "r", "sling")}, "r", []change{{7, "fit"}, {37, "due"}, {107, "retired"}}},
		{"an inspection that is too late", append(acts(), inspect(41, "r")), "r", []change{{0, "fit"}, {40, "retired"}}},
		{"acts ahead of the buy", []rope.Act{fall(3, "r", 900), inspect(4, "r"), retire(5, "r"), buy(5, "r", "rope")}, "r", []change{{5, "fit"}, {35, "due"}, {105, "retired"}}},
		{"acts of other items", []rope.Act{buy(5, "r", "rope"), buy(5, "s", "sling"), fall(6, "s", 900), retire(7, "t"), inspect(8, "s")}, "r", []change{{5, "fit"}, {35, "due"}, {105, "retired"}}},
		{"an act on the last day of its life", []rope.Act{buy(0, "r", "rope"), inspect(99, "r"), inspect(100, "r")}, "r", []change{{0, "fit"}, {30, "due"}, {99, "fit"}, {100, "retired"}}},
		{"a fall while it is due", []rope.Act{buy(0, "r", "rope"), fall(40, "r", 200), inspect(40, "r"), fall(41, "r", 1)}, "r", []change{{0, "fit"}, {30, "due"}, {40, "fit"}, {41, "retired"}}},
	} {
		for i, c := range row.changes {
			end := c.day + 150
			if i+1 < len(row.changes) {
				end = row.changes[i+1].day
			}
			for day := c.day; day < end; day++ {
				status, e := rope.Status(rules(), row.l, row.item, day)
				want(t, row.name+" on "+strconv.Itoa(day), []any{status, e}, []any{c.status, api.OK})
			}
		}
		_, e := rope.Status(rules(), row.l, row.item, max(0, row.changes[0].day-1))
		want(t, row.name+", before", e == api.ErrUnknown, row.changes[0].day > 0)
	}
}

// P4.4: Next takes no notice of later acts.
func TestNext(t *testing.T) {
	late := []rope.Rule{{Kind: "old", Life: 99999, Interval: 99999}, {Kind: "even", Life: 30, Interval: 30, Falls: 1}, {Kind: "day", Life: 1, Interval: 1}}
	for _, row := range []struct {
		name string
		r    []rope.Rule
		l    []rope.Act
		item string
		day  int
		next int
		e    api.Errno
	}{
		{"fit, with later acts", rules(), acts(), "r", 0, 30, api.OK},
		{"fit, after a fall", rules(), acts(), "r", 20, 30, api.OK},
		{"fit, after an inspection", rules(), acts(), "r", 25, 55, api.OK},
		{"fit, on the day before it is retired", rules(), acts(), "r", 39, 55, api.OK},
		{"retired", rules(), acts(), "r", 40, 0, api.ErrNone},
		{"fit, on the day before it is due", rules(), acts()[:3], "r", 54, 55, api.OK},
		{"due", rules(), acts()[:3], "r", 55, 100, api.OK},
		{"due, on its last day", rules(), acts()[:3], "r", 99, 100, api.OK},
		{"at the end of its life", rules(), acts()[:3], "r", 100, 0, api.ErrNone},
		{"retired without having been due", rules(), []rope.Act{buy(5, "s", "sling")}, "s", 5, 15, api.OK},
		{"due and retired on the same day", late, []rope.Act{buy(5, "e", "even")}, "e", 5, 35, api.OK},
		{"for a day", late, []rope.Act{buy(5, "d", "day")}, "d", 5, 6, api.OK},
		{"for a day that is over", late, []rope.Act{buy(5, "d", "day")}, "d", 6, 0, api.ErrNone},
		{"after the last day", late, []rope.Act{buy(99999, "o", "old")}, "o", 99999, 199998, api.OK},
		{"on the last day", late, []rope.Act{buy(0, "o", "old")}, "o", 0, 99999, api.OK},
		{"retired by an act", rules(), []rope.Act{buy(5, "r", "rope"), retire(6, "r")}, "r", 6, 0, api.ErrNone},
		{"to be retired by an act", rules(), []rope.Act{buy(5, "r", "rope"), retire(6, "r")}, "r", 5, 35, api.OK},
	} {
		next, e := rope.Next(row.r, row.l, row.item, row.day)
		want(t, row.name, []any{next, e}, []any{row.next, row.e})
	}
}

// P4.4: Aside and Items.
func TestAside(t *testing.T) {
	for _, row := range []struct {
		name  string
		l     []rope.Act
		aside []int
	}{
		{"of the chapter", append(acts(), inspect(41, "r")), []int{4}},
		{"none", acts(), nil},
		{"no acts", nil, nil},
		{"ahead of the buy", []rope.Act{inspect(3, "r"), fall(3, "r", 1), retire(3, "r"), buy(3, "r", "rope"), inspect(3, "r")}, []int{0, 1, 2}},
		{"bought twice", []rope.Act{buy(3, "r", "rope"), buy(3, "r", "rope"), buy(3, "s", "rope"), buy(9, "s", "sling")}, []int{1, 3}},
		{"retired, and nothing after it", []rope.Act{buy(3, "r", "rope"), retire(3, "r"), inspect(3, "r"), fall(3, "r", 1), retire(4, "r"), buy(5, "r", "rope")}, []int{2, 3, 4, 5}},
		{"a fall that is too great, and nothing after it", append(acts(), fall(40, "r", 1), retire(40, "r"), buy(40, "s", "rope")), []int{4, 5}},
		{"a fall that is just not too great", append(acts()[:3], fall(40, "r", 50), fall(40, "r", 1), fall(40, "r", 1)), []int{5}},
		{"at the end of its life", []rope.Act{buy(0, "r", "rope"), fall(99, "r", 1), fall(100, "r", 1), retire(101, "r"), buy(102, "r", "rope")}, []int{2, 3, 4}},
		{"due", []rope.Act{buy(0, "r", "rope"), fall(30, "r", 1), inspect(31, "r"), retire(70, "r")}, nil},
		{"an item of another case", []rope.Act{buy(0, "r", "rope"), inspect(1, "R"), inspect(2, "r")}, []int{1}},
	} {
		aside, e := rope.Aside(rules(), row.l)
		want(t, row.name, e, api.OK)
		want(t, row.name, aside, row.aside)
	}
}

// P4.4: Items, in ascending order by bytes.
func TestItems(t *testing.T) {
	l := []rope.Act{buy(0, "b", "rope"), buy(0, "a_1", "rope"), buy(0, "Z", "rope"), buy(0, "a1", "rope"), buy(5, "c", "sling"), buy(5, "a", "rope"), inspect(6, "b"), retire(7, "Z"), inspect(7, "d")}
	for _, row := range []struct {
		day               int
		fit, due, retired []string
	}{
		{0, []string{"Z", "a1", "a_1", "b"}, nil, nil},
		{4, []string{"Z", "a1", "a_1", "b"}, nil, nil},
		{5, []string{"Z", "a", "a1", "a_1", "b", "c"}, nil, nil},
		{7, []string{"a", "a1", "a_1", "b", "c"}, nil, []string{"Z"}},
		{15, []string{"a", "a1", "a_1", "b"}, nil, []string{"Z", "c"}},
		{30, []string{"a", "b"}, []string{"a1", "a_1"}, []string{"Z", "c"}},
		{36, nil, []string{"a", "a1", "a_1", "b"}, []string{"Z", "c"}},
		{99, nil, []string{"a", "a1", "a_1", "b"}, []string{"Z", "c"}},
		{100, nil, []string{"a"}, []string{"Z", "a1", "a_1", "b", "c"}},
		{99999, nil, nil, []string{"Z", "a", "a1", "a_1", "b", "c"}},
	} {
		for status, wanted := range map[string][]string{"fit": row.fit, "due": row.due, "retired": row.retired} {
			items, e := rope.Items(rules(), l, status, row.day)
			want(t, status+" on "+strconv.Itoa(row.day), e, api.OK)
			want(t, status+" on "+strconv.Itoa(row.day), items, wanted)
		}
	}
	for _, status := range []string{"fit", "due", "retired"} {
		items, e := rope.Items(rules(), []rope.Act{buy(5, "a", "rope"), inspect(5, "b")}, status, 4)
		want(t, "nothing is bought yet", []any{len(items), e}, []any{0, api.OK})
	}
}

// statusOf is the status of an item by acts that count, written as the chapter has it, or nothing.
func statusOf(r []rope.Rule, counting []rope.Act, item string, day int) string {
	bought, inspected, falls, retired := -1, -1, 0, false
	var rule rope.Rule
	for _, a := range counting {
		if a.Item != item || a.Day > day {
			continue
		}
		switch a.Kind {
		case "buy":
			bought, inspected = a.Day, a.Day
			for _, x := range r {
				if x.Kind == a.Of {
					rule = x
				}
			}
		case "inspect":
			inspected = a.Day
		case "fall":
			falls += a.Value
		case "retire":
			retired = true
		}
	}
	switch {
	case bought < 0:
		return ""
	case retired, day-bought >= rule.Life, falls > rule.Falls:
		return "retired"
	case day-inspected >= rule.Interval:
		return "due"
	}
	return "fit"
}

// counting returns the acts that count, and the numbers of the others.
func counting(r []rope.Rule, l []rope.Act) ([]rope.Act, []int) {
	var count []rope.Act
	var aside []int
	for i, a := range l {
		status := statusOf(r, count, a.Item, a.Day)
		if (a.Kind == "buy") != (status == "") || status == "retired" {
			aside = append(aside, i)
		} else {
			count = append(count, a)
		}
	}
	return count, aside
}

func randomRules(r *rand.Rand) []rope.Rule {
	var l []rope.Rule
	for i := range 1 + r.Intn(3) {
		l = append(l, rope.Rule{Kind: "k" + strconv.Itoa(i), Life: 1 + r.Intn(40), Interval: 1 + r.Intn(20), Falls: r.Intn(30)})
	}
	return l
}

// randomActs returns acts of up to 4 items on days up to 60.
func randomActs(r *rand.Rand, rules []rope.Rule) []rope.Act {
	var l []rope.Act
	for range r.Intn(25) {
		item, day := string(rune('a'+r.Intn(4))), r.Intn(60)
		switch r.Intn(7) {
		case 0, 1:
			l = append(l, buy(day, item, rules[r.Intn(len(rules))].Kind))
		case 2, 3:
			l = append(l, inspect(day, item))
		case 4, 5:
			l = append(l, fall(day, item, 1+r.Intn(12)))
		default:
			l = append(l, retire(day, item))
		}
	}
	slices.SortStableFunc(l, func(a, b rope.Act) int { return cmp.Compare(a.Day, b.Day) })
	return l
}

// P4.4: registers at random.
func TestRegistersAtRandom(t *testing.T) {
	r := rand.New(rand.NewSource(5))
	for range 400 {
		rules := randomRules(r)
		l := randomActs(r, rules)
		givenRules, given := slices.Clone(rules), slices.Clone(l)
		count, wanted := counting(rules, l)
		aside, e := rope.Aside(rules, l)
		want(t, "Aside", e, api.OK)
		want(t, "Aside", aside, wanted)
		for _, day := range []int{0, r.Intn(60), r.Intn(100), 99999} {
			found := map[string][]string{}
			for _, item := range []string{"a", "b", "c", "d"} {
				wanted := statusOf(rules, count, item, day)
				found[wanted] = append(found[wanted], item)
				status, e := rope.Status(rules, l, item, day)
				want(t, "Status", []any{status, e == api.OK}, []any{wanted, wanted != ""})
				checkNext(t, rules, l, item, day)
			}
			for _, status := range []string{"fit", "due", "retired"} {
				items, e := rope.Items(rules, l, status, day)
				want(t, "Items", e, api.OK)
				want(t, "Items", items, found[status])
			}
		}
		want(t, "the arguments stay", []any{rules, l}, []any{givenRules, given})
	}
}

// checkNext compares Next with the status on each of the next days, without later acts.
func checkNext(t *testing.T, rules []rope.Rule, l []rope.Act, item string, day int) {
	t.Helper()
	count, _ := counting(rules, l)
	count = slices.DeleteFunc(count, func(a rope.Act) bool { return a.Day > day })
	now := statusOf(rules, count, item, day)
	next, e := rope.Next(rules, l, item, day)
	switch now {
	case "":
		want(t, "Next", []any{next, e}, []any{0, api.ErrUnknown})
	case "retired":
		want(t, "Next", []any{next, e}, []any{0, api.ErrNone})
	default:
		wanted := day + 1
		for statusOf(rules, count, item, wanted) == now {
			wanted++
		}
		want(t, "Next", []any{next, e}, []any{wanted, api.OK})
	}
}
