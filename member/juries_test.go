package member_test

import (
	"math"
	"slices"
	"testing"

	"crux/api"
	"crux/member"
)

// P9.4: example 4: who may have which posts.
func TestExampleOfServes(t *testing.T) {
	for official, row := range [][]bool{{false, true, false}, {true, false, true}, {true, true, true}} {
		for post, wanted := range row {
			got, e := member.Serves(further(), official, post)
			want(t, "whether an official may have a post", got, wanted)
			want(t, "the error", e, api.OK)
		}
	}
}

// P9.4: an official needs the role, and another nation than all of the post; neither a load nor a name matters.
func TestServes(t *testing.T) {
	for _, row := range []struct {
		what string
		o    member.Official
		p    member.Post
		may  bool
	}{
		{"the role, and no nations", official("u", "A", 1, "judge"), post("p", "judge", 1), true},
		{"no roles", official("u", "A", 1), post("p", "judge", 1), false},
		{"another role", official("u", "A", 1, "setter"), post("p", "judge", 1), false},
		{"the last one of the roles", official("u", "A", 1, "setter", "timer", "judge"), post("p", "judge", 1), true},
		{"other nations", official("u", "A", 1, "judge"), post("p", "judge", 1, "B", "C"), true},
		{"the last one of the nations", official("u", "C", 1, "judge"), post("p", "judge", 1, "A", "B", "C"), false},
		{"neither", official("u", "A", 1, "setter"), post("p", "judge", 1, "A"), false},
		{"no load", official("u", "A", 0, "judge"), post("p", "judge", 1), true},
		{"a role in other letters", official("u", "A", 1, "Judge"), post("p", "judge", 1), false},
		{"names like a role and a nation", official("judge", "A", 1, "setter"), post("A", "setter", 1, "judge"), true},
	} {
		got, e := member.Serves(member.Jury{Officials: []member.Official{row.o}, Posts: []member.Post{row.p}}, 0, 0)
		want(t, row.what, got, row.may)
		want(t, "the error: "+row.what, e, api.OK)
	}
}

// wantJury reports an error of a jury that is not the wanted one, and comes before those of other arguments.
func wantJury(t *testing.T, what string, j member.Jury, e api.Errno) {
	t.Helper()
	want(t, "CheckJury: "+what, member.CheckJury(j), e)
	want(t, "the model: "+what, modelJury(j), e)
	if e == api.OK {
		return
	}
	for _, y := range answers(arguments{jury: j, official: -1, post: -1, appointment: []int{9}})[12:] {
		want(t, y.what+": "+what, y.e, e)
	}
}

// P9.4: the errors of the officials of a jury in their order.
func TestErrorsOfOfficials(t *testing.T) {
	of := func(l ...member.Official) []member.Official { return l }
	judge := func(name string, load int) member.Official { return official(name, "A", load, "judge") }
	for _, row := range []struct {
		what string
		l    []member.Official
		e    api.Errno
	}{
		{"nobody", nil, api.OK},
		{"the most officials", judges(24, 1), api.OK},
		{"one more", judges(25, 1), api.ErrMany},
		{"too many before a wrong one", make([]member.Official, 25), api.ErrMany},
		{"no name", of(judge("", 1)), api.ErrName},
		{"no nation", of(official("u", "", 1)), api.ErrName},
		{"the longest names", of(official(longName, longName, 1, longName)), api.OK},
		{"a name that is too long", of(judge(tooLong, 1)), api.ErrName},
		{"a nation that is too long", of(official("u", tooLong, 1)), api.ErrName},
		{"the name before the roles", of(official("", "A", 1, names(17)...)), api.ErrName},
		{"the nation before the roles", of(official("u", "1", 1, names(17)...)), api.ErrName},
		{"a name twice", of(judge("u", 1), judge("v", 1), judge("u", 1)), api.ErrTwice},
		{"the nation before a name twice", of(judge("u", 1), official("u", "", 1)), api.ErrName},
		{"a name twice before the roles", of(judge("u", 1), official("u", "A", 1, names(17)...)), api.ErrTwice},
		{"a name twice before the load", of(judge("u", 1), judge("u", -1)), api.ErrTwice},
		{"no roles", of(official("u", "A", 1)), api.OK},
		{"the most roles", of(official("u", "A", 1, names(16)...)), api.OK},
		{"one role more", of(official("u", "A", 1, names(17)...)), api.ErrMany},
		{"too many roles before a wrong one", of(official("u", "A", 1, make([]string, 17)...)), api.ErrMany},
		{"too many roles before the load", of(official("u", "A", -1, names(17)...)), api.ErrMany},
		{"a role without a name", of(official("u", "A", 1, "judge", "")), api.ErrName},
		{"a role that is too long", of(official("u", "A", 1, tooLong)), api.ErrName},
		{"a role before the load", of(official("u", "A", -1, "")), api.ErrName},
		{"a role twice", of(official("u", "A", 1, "judge", "setter", "judge")), api.ErrTwice},
		{"no name twice as a role", of(official("u", "A", 1, "", "")), api.ErrName},
		{"the first role with an error", of(official("u", "A", 1, "judge", "judge", "")), api.ErrTwice},
		{"a role twice before the load", of(official("u", "A", -1, "judge", "judge")), api.ErrTwice},
		{"a role of two officials", of(judge("u", 1), judge("v", 1)), api.OK},
		{"a load below", of(judge("u", -1)), api.ErrRange},
		{"no load", of(judge("u", 0)), api.OK},
		{"the greatest load", of(judge("u", 24)), api.OK},
		{"a load above", of(judge("u", 25)), api.ErrRange},
		{"the greatest integer", of(judge("u", math.MaxInt)), api.ErrRange},
		{"the least integer", of(judge("u", math.MinInt)), api.ErrRange},
		{"the first one with an error", of(judge("u", -1), judge("", 1)), api.ErrRange},
		{"the first one with an error, a role", of(official("u", "A", 1, "1"), judge("v", -1)), api.ErrName},
	} {
		wantJury(t, row.what, member.Jury{Officials: row.l}, row.e)
		// Officials come before posts.
		wantJury(t, row.what+" with too many posts", member.Jury{Officials: row.l, Posts: posts(25, 1)}, first(row.e, api.ErrMany))
		wantJury(t, row.what+" with a wrong post", member.Jury{Officials: row.l, Posts: []member.Post{post("", "", -1)}}, first(row.e, api.ErrName))
	}
}

// P9.4: the errors of the posts of a jury in their order.
func TestErrorsOfPosts(t *testing.T) {
	of := func(l ...member.Post) []member.Post { return l }
	for _, row := range []struct {
		what string
		l    []member.Post
		e    api.Errno
	}{
		{"none", nil, api.OK},
		{"the most posts", posts(24, 1), api.OK},
		{"one more", posts(25, 1), api.ErrMany},
		{"too many before a wrong one", make([]member.Post, 25), api.ErrMany},
		{"no name", of(post("", "judge", 1)), api.ErrName},
		{"no role", of(post("p", "", 1)), api.ErrName},
		{"the longest names", of(post(longName, longName, 1, longName)), api.OK},
		{"a name that is too long", of(post(tooLong, "judge", 1)), api.ErrName},
		{"a role that is too long", of(post("p", tooLong, 1)), api.ErrName},
		{"a role that nobody has", of(post("p", "timer", 1)), api.OK},
		{"the name before the hour", of(post("", "judge", -1)), api.ErrName},
		{"the role before the hour", of(post("p", "1", -1)), api.ErrName},
		{"a name twice", of(post("p", "judge", 1), post("q", "judge", 1), post("p", "setter", 2)), api.ErrTwice},
		{"the role before a name twice", of(post("p", "judge", 1), post("p", "", 1)), api.ErrName},
		{"a name twice before the hour", of(post("p", "judge", 1), post("p", "judge", -1)), api.ErrTwice},
		{"a name twice before the nations", of(post("p", "judge", 1), post("p", "judge", 1, "")), api.ErrTwice},
		{"an hour before", of(post("p", "judge", -1)), api.ErrRange},
		{"the first hour", of(post("p", "judge", 0)), api.OK},
		{"the last hour", of(post("p", "judge", api.MaxDay)), api.OK},
		{"an hour behind", of(post("p", "judge", api.MaxDay+1)), api.ErrRange},
		{"the greatest integer", of(post("p", "judge", math.MaxInt)), api.ErrRange},
		{"the least integer", of(post("p", "judge", math.MinInt)), api.ErrRange},
		{"the hour before the nations", of(post("p", "judge", -1, names(161)...)), api.ErrRange},
		{"the hour before a wrong nation", of(post("p", "judge", -1, "")), api.ErrRange},
		{"the most nations", of(post("p", "judge", 1, names(160)...)), api.OK},
		{"one nation more", of(post("p", "judge", 1, names(161)...)), api.ErrMany},
		{"too many nations before a wrong one", of(post("p", "judge", 1, make([]string, 161)...)), api.ErrMany},
		{"a nation without a name", of(post("p", "judge", 1, "A", "")), api.ErrName},
		{"a nation that is too long", of(post("p", "judge", 1, tooLong)), api.ErrName},
		{"a nation twice", of(post("p", "judge", 1, "A", "B", "A")), api.ErrTwice},
		{"no nation twice", of(post("p", "judge", 1, "", "")), api.ErrName},
		{"the first nation with an error", of(post("p", "judge", 1, "A", "A", "")), api.ErrTwice},
		{"a nation of two posts", of(post("p", "judge", 1, "A"), post("q", "judge", 1, "A")), api.OK},
		{"the first one with an error", of(post("p", "judge", -1), post("", "judge", 1)), api.ErrRange},
		{"the first one with an error, a nation", of(post("p", "judge", 1, "1"), post("q", "judge", -1)), api.ErrName},
		{"a post like an official", of(post("u", "u", 1, "u")), api.OK},
	} {
		wantJury(t, row.what, member.Jury{Posts: row.l}, row.e)
		wantJury(t, row.what+" with officials", member.Jury{Officials: jury(1).Officials, Posts: row.l}, row.e)
	}
}

// P9.4: the errors of an official and a post that are none.
func TestErrorsOfServes(t *testing.T) {
	for _, row := range []struct {
		official, post int
		e              api.Errno
	}{
		{0, 0, api.OK},
		{1, 2, api.OK},
		{-1, 0, api.ErrUnknown},
		{2, 0, api.ErrUnknown},
		{0, -1, api.ErrUnknown},
		{0, 3, api.ErrUnknown},
		{math.MaxInt, 0, api.ErrUnknown},
		{math.MinInt, 0, api.ErrUnknown},
		{0, math.MaxInt, api.ErrUnknown},
		{0, math.MinInt, api.ErrUnknown},
	} {
		_, e := member.Serves(jury(1), row.official, row.post)
		want(t, "the error", e, row.e)
	}
	_, e := member.Serves(member.Jury{}, 0, 0)
	want(t, "the error of an empty jury", e, api.ErrUnknown)
	_, e = member.Serves(member.Jury{Officials: judges(1, 1)}, 0, 0)
	want(t, "the error without posts", e, api.ErrUnknown)
	_, e = member.Serves(member.Jury{Posts: posts(1, 1)}, 0, 0)
	want(t, "the error without officials", e, api.ErrUnknown)
}

// P9.4: appointments and their errors in their order.
func TestCheckAppointment(t *testing.T) {
	two := member.Jury{Officials: judges(2, 1), Posts: posts(3, 1)}
	loads := member.Jury{Officials: judges(2, 2), Posts: []member.Post{post("p", "judge", 1), post("q", "judge", 2), post("r", "judge", 3), post("s", "judge", 2), post("t", "judge", 1)}}
	idle := member.Jury{Officials: judges(1, 0), Posts: posts(1, 1)}
	for _, row := range []struct {
		what string
		j    member.Jury
		a    []int
		e    api.Errno
	}{
		{"example 5", jury(2), []int{1, 0, 1}, api.OK},
		{"the load of example 4", jury(1), []int{1, 0, 1}, api.ErrMany},
		{"nobody", jury(1), []int{-1, -1, -1}, api.OK},
		{"some", jury(1), []int{-1, 0, 1}, api.OK},
		{"no posts", member.Jury{}, nil, api.OK},
		{"too few", jury(1), []int{-1, -1}, api.ErrShape},
		{"none", jury(1), nil, api.ErrShape},
		{"too many", jury(1), []int{-1, -1, -1, -1}, api.ErrShape},
		{"one for no posts", member.Jury{}, []int{-1}, api.ErrShape},
		{"too few before a wrong one", jury(1), []int{7, -2}, api.ErrShape},
		{"a number below", jury(1), []int{-1, -2, -1}, api.ErrUnknown},
		{"a number above", jury(1), []int{-1, 2, -1}, api.ErrUnknown},
		{"the greatest integer", jury(1), []int{math.MaxInt, -1, -1}, api.ErrUnknown},
		{"the least integer", jury(1), []int{-1, -1, math.MinInt}, api.ErrUnknown},
		{"the nation of the post", jury(1), []int{0, -1, -1}, api.ErrRule},
		{"without the role", jury(1), []int{-1, -1, 0}, api.ErrRule},
		{"the first number with an error", jury(1), []int{0, 7, -1}, api.ErrRule},
		{"the first number with an error, a stranger", jury(1), []int{7, 1, -1}, api.ErrUnknown},
		{"twice at an hour", two, []int{0, 1, 0}, api.ErrTwice},
		{"twice at an hour before too many", two, []int{-1, 0, 0}, api.ErrTwice},
		{"an error of a number behind one of an hour", two, []int{0, 0, 2}, api.ErrUnknown},
		{"the load", loads, []int{0, 0, 1, 1, -1}, api.OK},
		{"one more than the load", loads, []int{0, 0, 0, 1, 1}, api.ErrMany},
		{"too many before twice at an hour", loads, []int{0, 0, 0, 0, -1}, api.ErrMany},
		{"twice at an hour before too many later", loads, []int{-1, 0, -1, 0, 0}, api.ErrTwice},
		{"the first post with an error is not of the first official", loads, []int{1, 0, 1, 1, 1}, api.ErrMany},
		{"both at one post", loads, []int{0, 0, -1, -1, 0}, api.ErrTwice},
		{"both officials at the same hours", loads, []int{0, 1, -1, 0, 1}, api.OK},
		{"no load", idle, []int{0}, api.ErrMany},
		{"nobody without a load", idle, []int{-1}, api.OK},
	} {
		want(t, "CheckAppointment: "+row.what, member.CheckAppointment(row.j, row.a), row.e)
		want(t, "the model: "+row.what, modelAppointment(row.j, row.a), row.e)
		_, e := member.Replaced(row.j, row.a, -1)
		want(t, "Replaced: "+row.what, e, first(row.e, api.ErrUnknown))
	}
}

// P9.4: an appointment may have up to 24 posts, also where those of an exact search may not.
func TestLargeAppointments(t *testing.T) {
	j := member.Jury{Officials: judges(24, 24), Posts: posts(24, 1)}
	a := slices.Repeat([]int{-1}, 24)
	for i := range a {
		a[i] = 23 - i
	}
	want(t, "an appointment for 24 posts at an hour", member.CheckAppointment(j, a), api.OK)
	a[23] = 1
	want(t, "twice at the hour", member.CheckAppointment(j, a), api.ErrTwice)
	for i := range a {
		j.Posts[i].Hour, a[i] = i, 5
	}
	want(t, "an official for all posts", member.CheckAppointment(j, a), api.OK)
	j.Officials[5].Load = 23
	want(t, "one post too many", member.CheckAppointment(j, a), api.ErrMany)
	may, e := member.Serves(j, 23, 23)
	want(t, "whether the last one may have the last post", may, true)
	want(t, "the error", e, api.OK)
}

// P9.4: as in the model.
func TestJuriesLikeModel(t *testing.T) {
	d := draw(4)
	for range 10000 {
		j := d.jury(6, 8)
		a := d.appointment(j)
		want(t, "the error of an appointment", member.CheckAppointment(j, a), modelAppointment(j, a))
		official, post := d.Intn(6), d.Intn(8)
		may, e := member.Serves(j, official, post)
		wanted, wantedError := modelServes(j, official, post)
		want(t, "whether an official may have a post", may, wanted)
		want(t, "the error", e, wantedError)
	}
}
