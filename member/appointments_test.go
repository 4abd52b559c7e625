package member_test

import (
	"math"
	"slices"
	"strconv"
	"testing"

	"crux/api"
	"crux/member"
)

// exact is what the functions of exact searches return. Appoint has only its error.
type exact struct {
	most     int
	first    []int
	excluded []int
	fairest  int
	errors   [5]api.Errno // of Most, Appoint, First, Excluded and Fairest
}

// exactOf returns what the functions return for a jury. It examines the result of Appoint.
func exactOf(t *testing.T, j member.Jury) exact {
	t.Helper()
	var x exact
	var appoint []int
	x.most, x.errors[0] = member.Most(j)
	appoint, x.errors[1] = member.Appoint(j)
	x.first, x.errors[2] = member.First(j)
	x.excluded, x.errors[3] = member.Excluded(j)
	x.fairest, x.errors[4] = member.Fairest(j)
	if x.errors[1] == api.OK {
		want(t, "the error of what Appoint returns", modelAppointment(j, appoint), api.OK)
		want(t, "whether Appoint leaves a post out", slices.Contains(appoint, -1), false)
	} else {
		want(t, "what Appoint returns beside an error", appoint, []int(nil))
	}
	return x
}

// full is what the functions return if all posts can be filled.
func full(most, fairest int, first ...int) exact {
	return exact{most: most, first: first, fairest: fairest, errors: [5]api.Errno{3: api.ErrNone}}
}

// partly is what the functions return if a set of posts excludes itself.
func partly(most int, excluded ...int) exact {
	return exact{most: most, excluded: excluded, errors: [5]api.Errno{api.OK, api.ErrInfeasible, api.ErrInfeasible, api.OK, api.ErrInfeasible}}
}

// failing is what the functions return beside an error of all of them.
func failing(e api.Errno) exact {
	return exact{errors: [5]api.Errno{e, e, e, e, e}}
}

// modelExact returns what the functions of the model return.
func modelExact(j member.Jury) exact {
	var x exact
	x.most, x.errors[0] = modelMost(j)
	x.first, x.errors[2] = modelFirst(j)
	x.errors[1] = x.errors[2]
	x.excluded, x.errors[3] = modelExcluded(j)
	x.fairest, x.errors[4] = modelFairest(j)
	return x
}

// P9.4: example 4, and the last one of the document.
func TestExampleOfAppointments(t *testing.T) {
	want(t, "with the load 1", exactOf(t, jury(1)), partly(2, 0, 2))
	want(t, "with the load 2", exactOf(t, jury(2)), full(3, 2, 1, 0, 1))
	only := member.Jury{Officials: []member.Official{official("u", "A", 1, "judge"), official("v", "B", 2, "setter")}, Posts: []member.Post{post("p", "judge", 1), post("q", "judge", 2)}}
	want(t, "two posts for one official with the load 1", exactOf(t, only), partly(1, 0, 1))
}

// P9.4: example 5.
func TestExampleOfReplaced(t *testing.T) {
	for _, row := range []struct {
		j        member.Jury
		official int
		a        []int
		e        api.Errno
	}{
		{jury(2), 1, nil, api.ErrInfeasible},
		{jury(2), 0, nil, api.ErrInfeasible},
		{further(), 1, []int{2, 0, 2}, api.OK},
		{further(), 0, []int{1, 2, 1}, api.OK},
		{further(), 2, []int{1, 0, 1}, api.OK},
	} {
		a, e := member.Replaced(row.j, []int{1, 0, 1}, row.official)
		want(t, "the replacement", a, row.a)
		want(t, "the error", e, row.e)
	}
}

// P9.4: loads, hours, roles and nations of simple juries.
func TestAppointments(t *testing.T) {
	var later []member.Post
	for i, p := range posts(12, 0) {
		p.Hour = i
		later = append(later, p)
	}
	hours := func(hours ...int) []member.Post {
		l := posts(len(hours), 0)
		for i, hour := range hours {
			l[i].Hour = hour
		}
		return l
	}
	for _, row := range []struct {
		what string
		j    member.Jury
		want exact
	}{
		{"nothing", member.Jury{}, full(0, 0)},
		{"no posts", member.Jury{Officials: judges(3, 1)}, full(0, 0)},
		{"nobody", member.Jury{Posts: posts(3, 1)}, partly(0, 0)},
		{"a load of 0", member.Jury{Officials: judges(2, 0), Posts: posts(1, 1)}, partly(0, 0)},
		{"one for one", member.Jury{Officials: judges(1, 1), Posts: posts(1, 1)}, full(1, 1, 0)},
		{"one for two at an hour", member.Jury{Officials: judges(1, 9), Posts: posts(2, 1)}, partly(1, 0, 1)},
		{"one for two at two hours", member.Jury{Officials: judges(1, 9), Posts: hours(1, 2)}, full(2, 2, 0, 0)},
		{"one for two at two hours, with the load 1", member.Jury{Officials: judges(1, 1), Posts: hours(1, 2)}, partly(1, 0, 1)},
		{"two for two at two hours", member.Jury{Officials: judges(2, 2), Posts: hours(1, 2)}, full(2, 1, 0, 0)},
		{"two for three", member.Jury{Officials: judges(2, 2), Posts: hours(1, 2, 1)}, full(3, 2, 0, 0, 1)},
		{"two for three at two hours, of which the last ones exclude themselves", member.Jury{Officials: judges(1, 3), Posts: hours(3, 1, 1)}, partly(2, 1, 2)},
		{"twelve hours for one", member.Jury{Officials: judges(1, 12), Posts: later}, full(12, 12, 0, 0, 0, 0, 0, 0, 0, 0, 0, 0, 0, 0)},
		{"twelve hours for one with the load 11", member.Jury{Officials: judges(1, 11), Posts: later}, partly(11, 0, 1, 2, 3, 4, 5, 6, 7, 8, 9, 10, 11)},
		{"twelve at an hour for 24", member.Jury{Officials: judges(24, 24), Posts: posts(12, 1)}, full(12, 1, 0, 1, 2, 3, 4, 5, 6, 7, 8, 9, 10, 11)},
		{"twelve at an hour for 11", member.Jury{Officials: judges(11, 24), Posts: posts(12, 1)}, partly(11, 0, 1, 2, 3, 4, 5, 6, 7, 8, 9, 10, 11)},
		{"twelve hours for five", member.Jury{Officials: judges(5, 12), Posts: later}, full(12, 3, 0, 0, 0, 0, 0, 0, 0, 0, 0, 0, 0, 0)},
	} {
		want(t, row.what, exactOf(t, row.j), row.want)
	}
}

// P9.4: the smallest set that excludes itself comes before a greater one that stands before it.
func TestSmallestSets(t *testing.T) {
	j := member.Jury{
		Officials: []member.Official{official("u", "A", 1, "judge"), official("v", "A", 1, "setter")},
		Posts:     []member.Post{post("p", "judge", 1), post("q", "judge", 2), post("r", "setter", 3), post("s", "timer", 4), post("t", "timer", 5)},
	}
	want(t, "a post that nobody may have", exactOf(t, j), partly(2, 3))
	j.Posts = j.Posts[:3]
	want(t, "two posts", exactOf(t, j), partly(2, 0, 1))
	j.Posts = append(j.Posts, post("s", "setter", 3), post("t", "setter", 3))
	j.Posts[1].Role = "setter"
	want(t, "several sets of two posts", exactOf(t, j), partly(2, 1, 2))
	// The sets 0, 3 and 1, 2 exclude themselves.
	j.Posts = []member.Post{post("p", "judge", 1), post("q", "setter", 2), post("r", "setter", 3), post("s", "judge", 4)}
	want(t, "the lexicographically first one of both", exactOf(t, j), partly(2, 0, 3))
}

// P9.4: others go from post to post, so that one more post can be filled.
func TestChains(t *testing.T) {
	// The official i may have the posts i and i and 1, the last one only the first post.
	const n = 12
	j := member.Jury{Officials: judges(n, 1), Posts: posts(n, 1)}
	for i := range n {
		j.Posts[i].Role = "r" + strconv.Itoa(i)
		j.Officials[i].Roles = []string{"r" + strconv.Itoa(i), "r" + strconv.Itoa((i+1)%n)}
	}
	j.Officials[n-1].Roles = []string{"r0"}
	want(t, "one hour", exactOf(t, j), full(n, 1, 11, 0, 1, 2, 3, 4, 5, 6, 7, 8, 9, 10))
	for i := range n {
		j.Posts[i].Hour = i
	}
	want(t, "an hour for each post", exactOf(t, j), full(n, 1, 11, 0, 1, 2, 3, 4, 5, 6, 7, 8, 9, 10))
	j.Officials[n-1].Load = 0
	var all []int
	for i := range n {
		all = append(all, i)
	}
	want(t, "one official too few", exactOf(t, j), partly(n-1, all...))
}

// P9.4: too many posts for an exact search.
func TestErrorsOfAppointments(t *testing.T) {
	for _, row := range []struct {
		n    int
		want exact
	}{
		{12, partly(0, 0)},
		{13, failing(api.ErrLimit)},
		{24, failing(api.ErrLimit)},
		{25, failing(api.ErrMany)},
	} {
		j := member.Jury{Posts: posts(row.n, 1)}
		want(t, "many posts", exactOf(t, j), row.want)
		a := slices.Repeat([]int{-1}, row.n)
		_, e := member.Replaced(j, a, 0)
		want(t, "Replaced without officials", e, first(modelJury(j), api.ErrUnknown))
		j.Officials = judges(1, 1)
		b, e := member.Replaced(j, a, 0)
		want(t, "the error of Replaced", e, row.want.errors[0])
		if e != api.OK {
			a = nil
		}
		want(t, "the replacement", b, a)
	}
	for _, row := range []struct {
		a        []int
		official int
		e        api.Errno
	}{
		{[]int{1, 0, 1}, 2, api.ErrUnknown},
		{[]int{1, 0, 1}, -1, api.ErrUnknown},
		{[]int{-1, -1, -1}, -1, api.ErrUnknown},
		{[]int{1, 0, 1}, math.MaxInt, api.ErrUnknown},
		{[]int{1, 0, 1}, math.MinInt, api.ErrUnknown},
		{[]int{1, 0}, -1, api.ErrShape},
	} {
		_, e := member.Replaced(jury(2), row.a, row.official)
		want(t, "the error of Replaced", e, row.e)
	}
}

// P9.4: a replacement changes no other post, also not one that nobody has.
func TestReplaced(t *testing.T) {
	four := member.Jury{Officials: judges(4, 2), Posts: posts(4, 1)}
	for i, hour := range []int{1, 1, 2, 3} {
		four.Posts[i].Hour = hour
	}
	for _, row := range []struct {
		what     string
		load     int // of the official 0
		a        []int
		official int
		b        []int
		e        api.Errno
	}{
		{"no posts", 2, []int{1, 0, 1, 2}, 3, []int{1, 0, 1, 2}, api.OK},
		{"nobody has any", 2, []int{-1, -1, -1, -1}, 0, []int{-1, -1, -1, -1}, api.OK},
		{"a post that nobody has", 2, []int{1, -1, 1, -1}, 1, []int{0, -1, 0, -1}, api.OK},
		{"the first one is at the hour", 2, []int{0, 1, 1, -1}, 1, []int{0, 2, 0, -1}, api.OK},
		{"the load of the first one", 2, []int{0, 3, 0, 3}, 3, []int{0, 1, 0, 1}, api.OK},
		{"no load of the first one", 0, []int{3, -1, 3, -1}, 3, []int{1, -1, 1, -1}, api.OK},
		{"to several ones", 1, []int{3, -1, 3, 2}, 3, []int{0, -1, 1, 2}, api.OK},
	} {
		four.Officials[0].Load = row.load
		b, e := member.Replaced(four, row.a, row.official)
		want(t, row.what, b, row.b)
		want(t, "the error: "+row.what, e, row.e)
	}
	// Somebody who has another post might have made room, but no other post changes.
	two := member.Jury{Officials: []member.Official{official("u", "A", 1, "judge", "setter"), official("v", "A", 1, "judge"), official("w", "A", 1, "setter")}, Posts: []member.Post{post("p", "judge", 1), post("q", "setter", 1)}}
	_, e := member.Replaced(two, []int{1, 0}, 1)
	want(t, "the error with a load of 1", e, api.ErrInfeasible)
	b, e := member.Replaced(two, []int{0, 2}, 0)
	want(t, "the replacement", b, []int{1, 2})
	want(t, "its error", e, api.OK)
}

// P9.4: small juries as in the model.
func TestAppointmentsLikeModel(t *testing.T) {
	d := draw(5)
	for range 4000 {
		j := d.jury(4, 5)
		if d.Intn(2) == 0 {
			j = d.able(3, 5)
		}
		want(t, "the results", exactOf(t, j), modelExact(j))
		a, official := d.appointment(j), d.Intn(4)
		b, e := member.Replaced(j, a, official)
		wanted, wantedError := modelReplaced(j, a, official)
		want(t, "the replacement", b, wanted)
		want(t, "its error", e, wantedError)
	}
}

// fillable returns for each set of posts, as bits, whether the officials can fill it. They are added one by one: a set can be filled with a further official if those before can fill what this one leaves.
func fillable(j member.Jury, load func(official int) int, may func(official, post int) bool) []bool {
	n := len(j.Posts)
	can := make([]bool, 1<<n)
	can[0] = true
	for official := range j.Officials {
		var own []int
		for set := range 1 << n {
			l := postsOf(set)
			hours := map[int]bool{}
			isOne := len(l) <= load(official)
			for _, post := range l {
				isOne = isOne && may(official, post) && !hours[j.Posts[post].Hour]
				hours[j.Posts[post].Hour] = true
			}
			if isOne {
				own = append(own, set)
			}
		}
		further := make([]bool, 1<<n)
		for set := range can {
			for _, part := range own {
				further[set] = further[set] || part&^set == 0 && can[set&^part]
			}
		}
		can = further
	}
	return can
}

// P9.4: great juries, compared with a table of all sets of posts.
func TestGreatJuries(t *testing.T) {
	d := draw(6)
	all := map[bool]int{}
	for range 60 {
		j := d.able(6, 9)
		n := len(j.Posts)
		for i := range j.Officials {
			j.Officials[i].Load = d.from(0, 4)
		}
		load := func(official int) int { return j.Officials[official].Load }
		may := func(official, post int) bool { return modelMay(j, official, post) }
		can := fillable(j, load, may)
		var x exact
		for set, isOne := range can {
			if isOne {
				x.most = max(x.most, len(postsOf(set)))
			}
		}
		all[can[1<<n-1]]++
		if can[1<<n-1] {
			x = full(n, 0)
			for !fillable(j, func(official int) int { return min(load(official), x.fairest) }, may)[1<<n-1] {
				x.fairest++
			}
			for len(x.first) < n {
				x.first = append(x.first, 0)
				for !fillable(j, load, func(official, post int) bool {
					return may(official, post) && (post >= len(x.first) || x.first[post] == official)
				})[1<<n-1] {
					x.first[len(x.first)-1]++
				}
			}
		} else {
			x = partly(x.most, firstSet(n, func(set int) bool { return !can[set] })...)
		}
		want(t, "the results", exactOf(t, j), x)
	}
	want(t, "whether both kinds of juries were there", all[true] > 9 && all[false] > 9, true)
}
