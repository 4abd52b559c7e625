package member_test

import (
	"math/rand"
	"reflect"
	"slices"
	"strconv"
	"strings"
	"testing"

	"crux/api"
	"crux/member"
)

// longName is the longest name, and tooLong is none.
var (
	longName = strings.Repeat("a", 24)
	tooLong  = strings.Repeat("a", 25)
)

// want reports a result that is not the wanted one. Nil and empty lists are equal, wherever they are.
func want(t *testing.T, what string, got, wanted any) {
	t.Helper()
	if !alike(reflect.ValueOf(got), reflect.ValueOf(wanted)) {
		t.Errorf("%s: got %+v, want %+v", what, got, wanted)
	}
}

func alike(a, b reflect.Value) bool {
	if a.Type() != b.Type() {
		return false
	}
	switch a.Kind() {
	case reflect.Slice:
		if a.Len() != b.Len() {
			return false
		}
		for i := range a.Len() {
			if !alike(a.Index(i), b.Index(i)) {
				return false
			}
		}
		return true
	case reflect.Struct:
		for i := range a.NumField() {
			if !alike(a.Field(i), b.Field(i)) {
				return false
			}
		}
		return true
	}
	return a.Equal(b)
}

// climber returns a climber of the nation A, and the category open.
func climber(name string, born int) api.Climber {
	return api.Climber{Name: name, Nation: "A", Born: born, Category: "open"}
}

func category(name string, least, most int) member.Category {
	return member.Category{Name: name, Least: least, Most: most}
}

// ages are the categories of example 1.
func ages() []member.Category {
	return []member.Category{category("youth", 10, 17), category("open", 16, 40)}
}

func licence(climber string, from, to int) member.Licence {
	return member.Licence{Climber: climber, From: from, To: to}
}

// licences are those of example 2.
func licences() []member.Licence {
	return []member.Licence{licence("ann", 10, 20), licence("ann", 21, 30)}
}

func test(climber string, day int) member.Test {
	return member.Test{Climber: climber, Day: day}
}

// three are the climbers of example 3.
func three() []string {
	return []string{"ann", "bea", "cia"}
}

// tests are those of example 3.
func tests() []member.Test {
	return []member.Test{test("ann", 5), test("bea", 9)}
}

func pick(count, spare, key int) member.Pick {
	return member.Pick{Count: count, Spare: spare, Key: key}
}

func official(name, nation string, load int, roles ...string) member.Official {
	return member.Official{Name: name, Nation: nation, Roles: roles, Load: load}
}

func post(name, role string, hour int, nations ...string) member.Post {
	return member.Post{Name: name, Role: role, Hour: hour, Nations: nations}
}

// jury is the jury of example 4, with a load of v.
func jury(load int) member.Jury {
	return member.Jury{
		Officials: []member.Official{official("u", "A", 2, "judge"), official("v", "B", load, "judge", "setter")},
		Posts:     []member.Post{post("p", "judge", 9, "A"), post("q", "judge", 9, "B"), post("r", "setter", 10)},
	}
}

// further is the jury of example 5: that of example 4, with the official w.
func further() member.Jury {
	j := jury(2)
	j.Officials = append(j.Officials, official("w", "C", 2, "judge", "setter"))
	return j
}

// names returns n names.
func names(n int) []string {
	var l []string
	for i := range n {
		l = append(l, "c"+strconv.Itoa(i+1))
	}
	return l
}

// listOf returns n elements with different names.
func listOf[T any](n int, element func(name string) T) []T {
	var l []T
	for _, name := range names(n) {
		l = append(l, element(name))
	}
	return l
}

// judges returns n judges with a load.
func judges(n, load int) []member.Official {
	return listOf(n, func(name string) member.Official { return official(name, "A", load, "judge") })
}

// posts returns n posts for judges at an hour.
func posts(n, hour int) []member.Post {
	return listOf(n, func(name string) member.Post { return post(name, "judge", hour) })
}

// drawing draws arguments.
type drawing struct {
	*rand.Rand
}

func draw(seed int64) drawing {
	return drawing{rand.New(rand.NewSource(seed))}
}

// from returns a number from the least to the greatest one.
func (d drawing) from(least, greatest int) int {
	return least + d.Intn(greatest-least+1)
}

// some returns some of the names of a list, in any order.
func (d drawing) some(l []string) []string {
	l = slices.Clone(l)
	d.Shuffle(len(l), func(i, j int) { l[i], l[j] = l[j], l[i] })
	return l[:d.Intn(len(l)+1)]
}

func (d drawing) oneOf(l []string) string {
	return l[d.Intn(len(l))]
}

// climbers returns up to n climbers.
func (d drawing) climbers(n int) []api.Climber {
	var l []api.Climber
	for _, name := range d.some(names(n)) {
		l = append(l, climber(name, d.Intn(2000)))
	}
	return l
}

// categories returns up to n categories, with some of the least and the greatest ages.
func (d drawing) categories(n int) []member.Category {
	var l []member.Category
	for _, name := range d.some(names(n)) {
		least := d.Intn(121)
		l = append(l, category(name, least, least+d.Intn(min(40, 121-least))))
	}
	return l
}

// licences returns up to n licences of few climbers, often of days that touch.
func (d drawing) licences(n int) []member.Licence {
	var l []member.Licence
	for range d.Intn(n + 1) {
		from := d.Intn(20)
		l = append(l, licence(d.oneOf(names(3)), from, from+d.Intn(6)))
	}
	return l
}

// tests returns up to n tests of few climbers, on few days.
func (d drawing) tests(n int) []member.Test {
	var l []member.Test
	for range d.Intn(n + 1) {
		l = append(l, test(d.oneOf(names(7)), d.Intn(12)))
	}
	return l
}

func (d drawing) pick() member.Pick {
	return pick(d.Intn(7), d.Intn(8), 1+d.Intn(2147483646))
}

// jury returns a jury of up to m officials and up to n posts.
func (d drawing) jury(m, n int) member.Jury {
	var j member.Jury
	roles, nations := []string{"judge", "setter", "belayer"}, []string{"A", "B", "C", "D"}
	load, hours := d.from(1, 4), d.from(1, n+1)
	for _, name := range d.some(names(m)) {
		j.Officials = append(j.Officials, official(name, d.oneOf(nations), d.Intn(load+1), d.some(roles)...))
	}
	for _, name := range d.some(names(n)) {
		p := post(name, d.oneOf(roles), d.Intn(hours))
		if d.Intn(2) == 0 {
			p.Nations = d.some(nations[:3])
		}
		j.Posts = append(j.Posts, p)
	}
	return j
}

// able returns a jury of up to m officials and up to n posts in which all officials may have nearly all posts.
func (d drawing) able(m, n int) member.Jury {
	j := member.Jury{Officials: judges(d.from(1, m), 0), Posts: posts(d.from(1, n), 0)}
	hours := d.from(1, len(j.Posts))
	for i := range j.Officials {
		j.Officials[i].Load = d.from(1, 3)
		j.Officials[i].Nation = d.oneOf([]string{"A", "B", "C"})
	}
	for i := range j.Posts {
		j.Posts[i].Hour = d.Intn(hours)
		if d.Intn(3) == 0 {
			j.Posts[i].Nations = []string{d.oneOf([]string{"A", "B", "C"})}
		}
	}
	return j
}

// appointment returns an appointment, or nearly one.
func (d drawing) appointment(j member.Jury) []int {
	a := slices.Repeat([]int{-1}, len(j.Posts))
	for i := range a {
		for _, n := range d.Perm(len(j.Officials)) {
			a[i] = n
			if modelAppointment(j, a) == api.OK || d.Intn(40) == 0 {
				break
			}
			a[i] = -1
		}
		if d.Intn(5) == 0 {
			a[i] = -1
		}
	}
	return a
}
