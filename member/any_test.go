package member_test

import (
	"math"
	"reflect"
	"slices"
	"strings"
	"testing"

	"crux/api"
	"crux/member"
)

// arguments are those of all functions.
type arguments struct {
	climbers       []api.Climber
	climber        api.Climber
	categories     []member.Category
	licences       []member.Licence
	name           string
	from, to, day  int
	names          []string
	tests          []member.Test
	pick           member.Pick
	days           int
	jury           member.Jury
	official, post int
	appointment    []int
}

// answer is what a function returns: its results, and its error.
type answer struct {
	what    string
	results []any
	e       api.Errno
}

// answers returns what all functions return.
func answers(x arguments) []answer {
	age, ageError := member.Age(x.climber, x.day)
	suits, suitsError := member.Suits(x.categories, x.climber, x.day)
	gaps, gapsError := member.Gaps(x.categories)
	licensed, licensedError := member.Licensed(x.licences, x.name, x.from, x.to)
	lapse, lapseError := member.Lapse(x.licences, x.name, x.day)
	pool, poolError := member.Pool(x.names, x.tests, x.pick, x.day)
	late, lateError := member.Late(x.names, x.tests, x.days, x.day)
	serves, servesError := member.Serves(x.jury, x.official, x.post)
	most, mostError := member.Most(x.jury)
	appoint, appointError := member.Appoint(x.jury)
	first, firstError := member.First(x.jury)
	excluded, excludedError := member.Excluded(x.jury)
	fairest, fairestError := member.Fairest(x.jury)
	replaced, replacedError := member.Replaced(x.jury, x.appointment, x.official)
	return []answer{
		{"CheckClimbers", nil, member.CheckClimbers(x.climbers)},
		{"Age", []any{age}, ageError},
		{"CheckCategories", nil, member.CheckCategories(x.categories)},
		{"Suits", []any{suits}, suitsError},
		{"Gaps", []any{gaps}, gapsError},
		{"CheckLicences", nil, member.CheckLicences(x.licences)},
		{"Licensed", []any{licensed}, licensedError},
		{"Lapse", []any{lapse}, lapseError},
		{"CheckTests", nil, member.CheckTests(x.tests)},
		{"Pool", []any{pool}, poolError},
		{"Late", []any{late}, lateError},
		{"CheckJury", nil, member.CheckJury(x.jury)},
		{"Serves", []any{serves}, servesError},
		{"CheckAppointment", nil, member.CheckAppointment(x.jury, x.appointment)},
		{"Most", []any{most}, mostError},
		{"Appoint", []any{appoint}, appointError},
		{"First", []any{first}, firstError},
		{"Excluded", []any{excluded}, excludedError},
		{"Fairest", []any{fairest}, fairestError},
		{"Replaced", []any{replaced}, replacedError},
	}
}

// modelAnswers returns what all functions of the model return. It has no Appoint, as its result is free.
func modelAnswers(x arguments) map[string]answer {
	age, ageError := modelAge(x.climber, x.day)
	suits, suitsError := modelSuits(x.categories, x.climber, x.day)
	gaps, gapsError := modelGaps(x.categories)
	licensed, licensedError := modelLicensed(x.licences, x.name, x.from, x.to)
	lapse, lapseError := modelLapse(x.licences, x.name, x.day)
	pool, poolError := modelPool(x.names, x.tests, x.pick, x.day)
	late, lateError := modelLate(x.names, x.tests, x.days, x.day)
	serves, servesError := modelServes(x.jury, x.official, x.post)
	most, mostError := modelMost(x.jury)
	first, firstError := modelFirst(x.jury)
	excluded, excludedError := modelExcluded(x.jury)
	fairest, fairestError := modelFairest(x.jury)
	replaced, replacedError := modelReplaced(x.jury, x.appointment, x.official)
	return map[string]answer{
		"CheckClimbers":    {"", nil, modelClimbers(x.climbers)},
		"Age":              {"", []any{age}, ageError},
		"CheckCategories":  {"", nil, modelCategories(x.categories)},
		"Suits":            {"", []any{suits}, suitsError},
		"Gaps":             {"", []any{gaps}, gapsError},
		"CheckLicences":    {"", nil, modelLicences(x.licences)},
		"Licensed":         {"", []any{licensed}, licensedError},
		"Lapse":            {"", []any{lapse}, lapseError},
		"CheckTests":       {"", nil, modelTests(x.tests)},
		"Pool":             {"", []any{pool}, poolError},
		"Late":             {"", []any{late}, lateError},
		"CheckJury":        {"", nil, modelJury(x.jury)},
		"Serves":           {"", []any{serves}, servesError},
		"CheckAppointment": {"", nil, modelAppointment(x.jury, x.appointment)},
		"Most":             {"", []any{most}, mostError},
		"First":            {"", []any{first}, firstError},
		"Excluded":         {"", []any{excluded}, excludedError},
		"Fairest":          {"", []any{fairest}, fairestError},
		"Replaced":         {"", []any{replaced}, replacedError},
	}
}

// some draws arguments of any form.
type some struct {
	drawing
}

func (d some) number() int {
	l := []int{0, 1, 2, 9, 24, 25, 120, 121, 160, 161, api.MaxDay, api.MaxDay + 1, -1, -2, math.MaxInt32, math.MaxInt, math.MinInt}
	return l[d.Intn(len(l))]
}

func (d some) word() string {
	return d.oneOf([]string{"", "c1", "c2", "A", "judge", "a b", "1", "\xff", strings.Repeat("a", 5000)})
}

func (d some) anyClimber() api.Climber {
	return api.Climber{Name: d.word(), Nation: d.word(), Born: d.number(), Category: d.word()}
}

func (d some) anyCategory() member.Category {
	return category(d.word(), d.number(), d.number())
}

func (d some) anyLicence() member.Licence {
	return licence(d.word(), d.number(), d.number())
}

func (d some) anyTest() member.Test {
	return test(d.word(), d.number())
}

func (d some) anyOfficial() member.Official {
	return official(d.word(), d.word(), d.number(), spoiled(d, []string{"judge"}, d.word)...)
}

func (d some) anyPost() member.Post {
	return post(d.word(), d.word(), d.number(), spoiled(d, []string{"A"}, d.word)...)
}

// spoiled returns a list in which something of any form may stand.
func spoiled[T any](d some, l []T, other func() T) []T {
	if d.Intn(6) == 0 && len(l) > 0 {
		l = slices.Clone(l)
		l[d.Intn(len(l))] = other()
	}
	if d.Intn(9) == 0 {
		l = append(slices.Clone(l), other())
	}
	if d.Intn(60) == 0 {
		return slices.Repeat([]T{other()}, d.Intn(300))
	}
	return l
}

// arguments returns arguments that fit to each other, or nearly so.
func (d some) arguments() arguments {
	x := arguments{
		climbers: d.climbers(5), climber: climber("ann", d.Intn(20000)), categories: d.categories(4),
		licences: d.licences(8), name: d.oneOf(names(3)), from: d.Intn(20), day: d.Intn(20),
		names: d.some(names(7)), tests: d.tests(10), pick: d.pick(), days: d.Intn(15),
		jury: d.jury(3, 4), official: d.Intn(4), post: d.Intn(5),
	}
	x.to = x.from + d.Intn(9) - 1
	if d.Intn(3) == 0 {
		x.jury = d.able(3, 3)
	}
	if d.Intn(30) == 0 {
		x.jury.Posts = posts(d.from(12, 14), 1)
		x.jury.Officials = x.jury.Officials[:min(1, len(x.jury.Officials))]
	}
	if d.Intn(2) == 0 {
		x.day = x.climber.Born + d.Intn(50000)
	}
	x.appointment = d.appointment(x.jury)
	if d.Intn(2) == 0 {
		d.spoil(&x)
	}
	return x
}

// spoil puts something of any form into some of the arguments.
func (d some) spoil(x *arguments) {
	x.climbers = spoiled(d, x.climbers, d.anyClimber)
	if d.Intn(9) == 0 {
		x.climber = d.anyClimber()
	}
	x.categories = spoiled(d, x.categories, d.anyCategory)
	x.licences = spoiled(d, x.licences, d.anyLicence)
	x.names = spoiled(d, x.names, d.word)
	x.tests = spoiled(d, x.tests, d.anyTest)
	x.jury.Officials = spoiled(d, x.jury.Officials, d.anyOfficial)
	x.jury.Posts = spoiled(d, x.jury.Posts, d.anyPost)
	x.appointment = spoiled(d, x.appointment, d.number)
	for _, n := range []*int{&x.climber.Born, &x.from, &x.to, &x.day, &x.pick.Count, &x.pick.Spare, &x.pick.Key, &x.days, &x.official, &x.post} {
		if d.Intn(9) == 0 {
			*n = d.number()
		}
	}
	for _, s := range []*string{&x.name, &x.climber.Name, &x.climber.Nation, &x.climber.Category} {
		if d.Intn(9) == 0 {
			*s = d.word()
		}
	}
}

// scramble overwrites all lists in a result.
func scramble(v reflect.Value) {
	switch v.Kind() {
	case reflect.Slice:
		for i := range v.Len() {
			scramble(v.Index(i))
			v.Index(i).SetZero()
		}
		// What is behind the end of a list may belong to nobody else.
		whole := v.Slice3(0, v.Cap(), v.Cap())
		for i := v.Len(); i < v.Cap(); i++ {
			whole.Index(i).SetZero()
		}
	case reflect.Struct:
		for i := range v.NumField() {
			scramble(v.Field(i))
		}
	}
}

// P1: every function terminates and never panics, returns zero values beside an error, and the same when it is called again: what the model returns.
func TestAnyArguments(t *testing.T) {
	d := some{draw(13)}
	errors := map[string]map[api.Errno]bool{}
	for range 20000 {
		x := d.arguments()
		again, model := answers(x), modelAnswers(x)
		for i, y := range answers(x) {
			want(t, y.what+": the error again", again[i].e, y.e)
			if errors[y.what] == nil {
				errors[y.what] = map[api.Errno]bool{}
			}
			errors[y.what][y.e] = true
			m, isUnique := model[y.what]
			if isUnique {
				want(t, "the error of "+y.what, y.e, m.e)
			}
			for j, got := range y.results {
				want(t, y.what+" again", again[i].results[j], got)
				if isUnique {
					want(t, y.what, got, m.results[j])
				}
				if y.e != api.OK {
					want(t, y.what+" beside an error", got, reflect.Zero(reflect.TypeOf(got)).Interface())
				}
			}
		}
	}
	for what, n := range map[string]int{
		"CheckClimbers": 5, "Age": 4, "CheckCategories": 6, "Suits": 6, "Gaps": 6, "CheckLicences": 5, "Licensed": 5, "Lapse": 5,
		"CheckTests": 4, "Pool": 5, "Late": 5, "CheckJury": 5, "Serves": 6, "CheckAppointment": 8, "Most": 6, "Appoint": 7,
		"First": 7, "Excluded": 7, "Fairest": 7, "Replaced": 10,
	} {
		want(t, "how many different errors "+what+" has returned", len(errors[what]), n)
	}
}

// P1: arguments are not modified, and results share no memory with them.
func TestMemory(t *testing.T) {
	for seed := range int64(1000) {
		before := some{draw(seed)}.arguments()
		x := some{draw(seed)}.arguments()
		wanted := answers(x)
		want(t, "the arguments", reflect.DeepEqual(x, before), true)
		for _, y := range answers(x) {
			for _, got := range y.results {
				scramble(reflect.ValueOf(got))
			}
		}
		want(t, "the arguments behind changes of results", reflect.DeepEqual(x, before), true)
		for i, y := range answers(x) {
			for j, got := range y.results {
				want(t, y.what+" behind changes of results", got, wanted[i].results[j])
			}
		}
	}
}

// P1: what is behind the end of an argument stays as it is.
func TestMemoryBehindArguments(t *testing.T) {
	l := append(make([]member.Licence, 0, 9), licence("bea", 1, 2), licence("ann", 3, 4))
	lapse, e := member.Lapse(l, "ann", 3)
	want(t, "the first day without a licence", lapse, 5)
	want(t, "the error", e, api.OK)
	want(t, "the licences and what is behind them", l[:3], []member.Licence{licence("bea", 1, 2), licence("ann", 3, 4), {}})
	a := append(make([]int, 0, 9), 1, 0, 1)
	b, e := member.Replaced(further(), a, 1)
	want(t, "the replacement", b, []int{2, 0, 2})
	want(t, "the error", e, api.OK)
	want(t, "the appointment and what is behind it", a[:4], []int{1, 0, 1, 0})
}

// P1: arguments that are far too long come to an end with their errors.
func TestLongArguments(t *testing.T) {
	const long = 3000000
	x := arguments{
		climbers: make([]api.Climber, long), climber: climber("ann", 1), categories: make([]member.Category, long),
		licences: make([]member.Licence, long), name: strings.Repeat("a", long), names: make([]string, long),
		tests: make([]member.Test, long), pick: pick(1, 1, 1), day: 1, appointment: make([]int, long),
		jury: member.Jury{Officials: make([]member.Official, long), Posts: make([]member.Post, long)},
	}
	for _, y := range answers(x) {
		want(t, "the error of "+y.what, y.e, when(y.what != "Age", api.ErrMany))
	}
	want(t, "the error of many roles", member.CheckJury(member.Jury{Officials: []member.Official{official("u", "A", 1, x.names...)}}), api.ErrMany)
	want(t, "the error of many nations", member.CheckJury(member.Jury{Posts: []member.Post{post("p", "judge", 1, x.names...)}}), api.ErrMany)
	want(t, "the error of a long appointment", member.CheckAppointment(jury(1), x.appointment), api.ErrShape)
	_, e := member.Lapse(nil, x.name, 1)
	want(t, "the error of a long name", e, api.ErrName)
}
