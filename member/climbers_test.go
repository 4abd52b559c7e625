package member_test

import (
	"math"
	"testing"

	"crux/api"
	"crux/member"
)

// P9.1: example 1.
func TestExampleOfAges(t *testing.T) {
	ann := climber("ann", 1000)
	for _, row := range []struct {
		day, age int
		suits    []string
	}{
		{7570, 18, []string{"open"}},
		{7569, 17, []string{"youth", "open"}},
		{1000, 0, nil},
		{1364, 0, nil},
		{1365, 1, nil},
		{1000 + 10*365 - 1, 9, nil},
		{1000 + 10*365, 10, []string{"youth"}},
		{1000 + 16*365 - 1, 15, []string{"youth"}},
		{1000 + 16*365, 16, []string{"youth", "open"}},
		{1000 + 41*365 - 1, 40, []string{"open"}},
		{1000 + 41*365, 41, nil},
		{api.MaxDay, 271, nil},
	} {
		age, e := member.Age(ann, row.day)
		want(t, "the age", age, row.age)
		want(t, "the error of the age", e, api.OK)
		suits, e := member.Suits(ages(), ann, row.day)
		want(t, "what suits", suits, row.suits)
		want(t, "the error of what suits", e, api.OK)
	}
	gaps, e := member.Gaps(ages())
	want(t, "the gaps", gaps, [][2]int{{0, 9}, {41, 120}})
	want(t, "the error of the gaps", e, api.OK)
}

// P9.1: categories stand in their order, and their ages are included.
func TestSuits(t *testing.T) {
	all := []member.Category{category("z", 0, 120), category("a", 30, 30), category("m", 0, 0), category("b", 120, 120), category("c", 31, 120), category("d", 0, 29)}
	for _, row := range []struct {
		age   int
		suits []string
	}{
		{0, []string{"z", "m", "d"}},
		{1, []string{"z", "d"}},
		{29, []string{"z", "d"}},
		{30, []string{"z", "a"}},
		{31, []string{"z", "c"}},
		{120, []string{"z", "b", "c"}},
		{121, nil},
	} {
		got, e := member.Suits(all, climber("ann", 7), 7+365*row.age)
		want(t, "what suits", got, row.suits)
		want(t, "the error", e, api.OK)
	}
	// The category of a climber is not asked for.
	got, _ := member.Suits(ages(), api.Climber{Name: "ann", Nation: "A", Category: "youth"}, 365*20)
	want(t, "what suits a climber of another category", got, []string{"open"})
}

// P9.1: gaps are as long as possible, and ascending.
func TestGaps(t *testing.T) {
	for _, row := range []struct {
		what string
		l    []member.Category
		gaps [][2]int
	}{
		{"no categories", nil, [][2]int{{0, 120}}},
		{"all ages", []member.Category{category("a", 0, 120)}, nil},
		{"all ages by two that touch", []member.Category{category("a", 31, 120), category("b", 0, 30)}, nil},
		{"all ages by two that overlap", []member.Category{category("a", 0, 60), category("b", 20, 120)}, nil},
		{"a gap of one age", []member.Category{category("a", 0, 30), category("b", 32, 120)}, [][2]int{{31, 31}}},
		{"the age 0", []member.Category{category("a", 1, 120)}, [][2]int{{0, 0}}},
		{"the greatest age", []member.Category{category("a", 0, 119)}, [][2]int{{120, 120}}},
		{"three gaps, in another order", []member.Category{category("a", 60, 80), category("b", 10, 20), category("c", 15, 22), category("d", 18, 19)}, [][2]int{{0, 9}, {23, 59}, {81, 120}}},
		{"gaps at both ends", []member.Category{category("a", 1, 119)}, [][2]int{{0, 0}, {120, 120}}},
	} {
		gaps, e := member.Gaps(row.l)
		want(t, row.what, gaps, row.gaps)
		want(t, "the error: "+row.what, e, api.OK)
	}
}

// P9.1: the errors of climbers in their order, also for one of them alone.
func TestErrorsOfClimbers(t *testing.T) {
	with := func(name, nation, category string, born int) []api.Climber {
		return []api.Climber{{Name: name, Nation: nation, Category: category, Born: born}}
	}
	list := func(n int) []api.Climber {
		return listOf(n, func(name string) api.Climber { return climber(name, 1) })
	}
	for _, row := range []struct {
		what string
		l    []api.Climber
		e    api.Errno
	}{
		{"nobody", nil, api.OK},
		{"the most climbers", list(160), api.OK},
		{"one more", list(161), api.ErrMany},
		{"too many climbers before a wrong one", make([]api.Climber, 161), api.ErrMany},
		{"no name", with("", "A", "open", 1), api.ErrName},
		{"no nation", with("ann", "", "open", 1), api.ErrName},
		{"no category", with("ann", "A", "", 1), api.ErrName},
		{"the longest names", with(longName, longName, longName, 1), api.OK},
		{"a name that is too long", with(tooLong, "A", "open", 1), api.ErrName},
		{"a nation that is too long", with("ann", tooLong, "open", 1), api.ErrName},
		{"a category that is too long", with("ann", "A", tooLong, 1), api.ErrName},
		{"the same name for all", with("a", "a", "a", 1), api.OK},
		{"the first day", with("ann", "A", "open", 0), api.OK},
		{"the last day", with("ann", "A", "open", api.MaxDay), api.OK},
		{"a day before", with("ann", "A", "open", -1), api.ErrRange},
		{"a day behind", with("ann", "A", "open", api.MaxDay+1), api.ErrRange},
		{"the least integer", with("ann", "A", "open", math.MinInt), api.ErrRange},
		{"the greatest integer", with("ann", "A", "open", math.MaxInt), api.ErrRange},
		{"the name before the birth", with("", "A", "open", -1), api.ErrName},
		{"the nation before the birth", with("ann", "", "open", -1), api.ErrName},
		{"the category before the birth", with("ann", "A", "1", -1), api.ErrName},
		{"a climber twice", []api.Climber{climber("ann", 1), climber("bea", 1), climber("ann", 2)}, api.ErrTwice},
		{"a climber twice before the birth", []api.Climber{climber("ann", 1), climber("ann", -1)}, api.ErrTwice},
		{"the category before a climber twice", append(with("ann", "A", "open", 1), with("ann", "A", "", 1)...), api.ErrName},
		{"the first one with an error", []api.Climber{climber("ann", -1), climber("", 1)}, api.ErrRange},
		{"the first one with an error, a name", []api.Climber{climber("ann", 1), climber("", 1), climber("ann", 1)}, api.ErrName},
	} {
		want(t, "CheckClimbers: "+row.what, member.CheckClimbers(row.l), row.e)
		want(t, "the model: "+row.what, modelClimbers(row.l), row.e)
		if len(row.l) != 1 {
			continue
		}
		_, e := member.Age(row.l[0], -1)
		want(t, "Age: "+row.what, e, first(row.e, api.ErrRange))
		_, e = member.Suits(ages(), row.l[0], -1)
		want(t, "Suits: "+row.what, e, first(row.e, api.ErrRange))
		_, e = member.Suits([]member.Category{category("a", 2, 1)}, row.l[0], -1)
		want(t, "Suits, categories before: "+row.what, e, api.ErrOrder)
	}
}

// P9.1: the errors of the day of an age.
func TestErrorsOfAges(t *testing.T) {
	for _, row := range []struct {
		born, day int
		e         api.Errno
	}{
		{0, 0, api.OK},
		{0, api.MaxDay, api.OK},
		{api.MaxDay, api.MaxDay, api.OK},
		{0, -1, api.ErrRange},
		{5, -1, api.ErrRange},
		{0, api.MaxDay + 1, api.ErrRange},
		{0, math.MaxInt, api.ErrRange},
		{0, math.MinInt, api.ErrRange},
		{8, 7, api.ErrOrder},
		{8, 8, api.OK},
		{api.MaxDay, 0, api.ErrOrder},
		{-1, -2, api.ErrRange},
	} {
		_, e := member.Age(climber("ann", row.born), row.day)
		want(t, "the error of the age", e, row.e)
		_, e = member.Suits(ages(), climber("ann", row.born), row.day)
		want(t, "the error of what suits", e, row.e)
	}
}

// P9.1: the errors of categories in their order.
func TestErrorsOfCategories(t *testing.T) {
	list := func(n int) []member.Category {
		return listOf(n, func(name string) member.Category { return category(name, 1, 2) })
	}
	for _, row := range []struct {
		what string
		l    []member.Category
		e    api.Errno
	}{
		{"example 1", ages(), api.OK},
		{"none", nil, api.OK},
		{"the most categories", list(256), api.OK},
		{"one more", list(257), api.ErrMany},
		{"too many before a wrong one", make([]member.Category, 257), api.ErrMany},
		{"no name", []member.Category{category("", 1, 2)}, api.ErrName},
		{"the longest name", []member.Category{category(longName, 1, 2)}, api.OK},
		{"a name that is too long", []member.Category{category(tooLong, 1, 2)}, api.ErrName},
		{"the name before its ages", []member.Category{category("", -1, 2)}, api.ErrName},
		{"a name twice", []member.Category{category("a", 1, 2), category("b", 1, 2), category("a", 3, 4)}, api.ErrTwice},
		{"a name twice before its ages", []member.Category{category("a", 1, 2), category("a", -1, 2)}, api.ErrTwice},
		{"Least below", []member.Category{category("a", -1, 2)}, api.ErrRange},
		{"Least above", []member.Category{category("a", 121, 120)}, api.ErrRange},
		{"Most below", []member.Category{category("a", 0, -1)}, api.ErrRange},
		{"Most above", []member.Category{category("a", 0, 121)}, api.ErrRange},
		{"the greatest integer", []member.Category{category("a", 0, math.MaxInt)}, api.ErrRange},
		{"the least integer", []member.Category{category("a", math.MinInt, 1)}, api.ErrRange},
		{"the least and the greatest age", []member.Category{category("a", 0, 120), category("b", 0, 0), category("c", 120, 120)}, api.OK},
		{"Least above Most", []member.Category{category("a", 6, 5)}, api.ErrOrder},
		{"the first one with an error", []member.Category{category("a", 2, 1), category("", 1, 2)}, api.ErrOrder},
		{"the first one with an error, a range", []member.Category{category("a", 1, 121), category("a", 1, 2)}, api.ErrRange},
	} {
		want(t, "CheckCategories: "+row.what, member.CheckCategories(row.l), row.e)
		want(t, "the model: "+row.what, modelCategories(row.l), row.e)
		_, e := member.Gaps(row.l)
		want(t, "Gaps: "+row.what, e, row.e)
		_, e = member.Suits(row.l, api.Climber{}, -1)
		want(t, "Suits: "+row.what, e, first(row.e, api.ErrName))
	}
}

// P9.1: gaps, and what suits, as in the model.
func TestCategoriesLikeModel(t *testing.T) {
	d := draw(1)
	for range 3000 {
		l := d.categories(6)
		gaps, e := member.Gaps(l)
		wanted, wantedError := modelGaps(l)
		want(t, "the gaps", gaps, wanted)
		want(t, "the error of the gaps", e, wantedError)
		c, day := climber("ann", d.Intn(3000)), d.Intn(50000)
		suits, e := member.Suits(l, c, day)
		model, modelError := modelSuits(l, c, day)
		want(t, "what suits", suits, model)
		want(t, "the error of what suits", e, modelError)
	}
}
