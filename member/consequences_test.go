package member_test

import (
	"slices"
	"testing"

	"crux/api"
	"crux/member"
)

// P9.5: an age is in a category or in a gap, and no two gaps touch.
func TestAgesAndGaps(t *testing.T) {
	d := draw(7)
	for range 3000 {
		l := d.categories(7)
		gaps, e := member.Gaps(l)
		want(t, "the error", e, api.OK)
		for i := 1; i < len(gaps); i++ {
			want(t, "whether two gaps are apart", gaps[i-1][1]+1 < gaps[i][0], true)
		}
		for age := range member.MaxAge + 1 {
			suits, e := member.Suits(l, climber("ann", 3), 3+member.Year*age)
			want(t, "the error", e, api.OK)
			inGap := slices.ContainsFunc(gaps, func(gap [2]int) bool { return gap[0] <= age && age <= gap[1] })
			want(t, "whether an age is in a gap", inGap, len(suits) == 0)
		}
	}
}

// P9.5: a licence that is added never lets a day lapse that did not.
func TestFurtherLicences(t *testing.T) {
	d := draw(8)
	longer := 0
	for range 5000 {
		l, name, day := d.licences(9), d.oneOf(names(3)), d.Intn(22)
		from := d.Intn(25)
		more := slices.Insert(slices.Clone(l), d.Intn(len(l)+1), licence(d.oneOf(names(3)), from, from+d.Intn(5)))
		before, e := member.Lapse(l, name, day)
		want(t, "the error", e, api.OK)
		behind, e := member.Lapse(more, name, day)
		want(t, "the error of more licences", e, api.OK)
		want(t, "whether more licences hold as long", behind >= before, true)
		if behind > before {
			longer++
		}
		for to := day; to < 30; to++ {
			licensed, _ := member.Licensed(l, name, day, to)
			still, _ := member.Licensed(more, name, day, to)
			want(t, "whether there still is a licence", still || !licensed, true)
			want(t, "whether the days before the first one without a licence are licensed", licensed, to < before)
		}
	}
	want(t, "whether some licences held longer", longer > 100, true)
}

// P9.5: nobody who is spared is in a pool, and all others are if the count is great enough; a greater count only adds at its end.
func TestGreaterPools(t *testing.T) {
	d := draw(9)
	for range 3000 {
		c, l, p, day := d.some(names(7)), d.tests(12), d.pick(), d.Intn(14)
		late, e := member.Late(c, l, p.Spare, day)
		want(t, "the error of who is late", e, api.OK)
		var before []string
		for count := range 9 {
			pool, e := member.Pool(c, l, pick(count, p.Spare, p.Key), day)
			want(t, "the error of the pool", e, api.OK)
			want(t, "the size of the pool", len(pool), min(count, len(late)))
			want(t, "the beginning of the pool", pool[:len(before)], before)
			before = pool
		}
		slices.Sort(before)
		slices.Sort(late)
		want(t, "those who are not spared", before, late)
		for _, name := range before {
			want(t, "whether somebody in the pool is spared", modelTested(l, name, day-p.Spare, day), false)
		}
	}
}

// part returns a jury with some of its posts.
func part(j member.Jury, posts []int) member.Jury {
	p := member.Jury{Officials: j.Officials}
	for _, post := range posts {
		p.Posts = append(p.Posts, j.Posts[post])
	}
	return p
}

// P9.5: all posts are filled, or a set excludes itself, never both; without any one of its posts the smallest set does not exclude itself.
func TestFilledOrExcluded(t *testing.T) {
	d := draw(10)
	filled, sizes := 0, map[int]bool{}
	for range 2000 {
		j := d.able(6, 12)
		if d.Intn(3) == 0 {
			j = d.jury(9, 12)
		}
		most, e := member.Most(j)
		want(t, "the error of Most", e, api.OK)
		a, appointError := member.Appoint(j)
		set, excludedError := member.Excluded(j)
		if most == len(j.Posts) {
			filled++
			want(t, "the error of Appoint", appointError, api.OK)
			want(t, "the error of an appointment", modelAppointment(j, a), api.OK)
			want(t, "the error of Excluded", excludedError, api.ErrNone)
			continue
		}
		want(t, "the error of Appoint", appointError, api.ErrInfeasible)
		want(t, "the error of Excluded", excludedError, api.OK)
		sizes[len(set)] = true
		_, e = member.Appoint(part(j, set))
		want(t, "the error of Appoint for the smallest set", e, api.ErrInfeasible)
		for i := range set {
			b, e := member.Appoint(part(j, slices.Delete(slices.Clone(set), i, i+1)))
			want(t, "the error of Appoint without one of its posts", e, api.OK)
			want(t, "whether a post is not filled", slices.Contains(b, -1), false)
		}
	}
	want(t, "whether both kinds of juries were there", filled > 200 && filled < 1800, true)
	want(t, "whether there were small and great sets", sizes[1] && sizes[2] && sizes[3] && sizes[4] && sizes[6], true)
}

// P9.5: a further official never lets fewer posts be filled.
func TestFurtherOfficials(t *testing.T) {
	d := draw(11)
	more := 0
	for range 3000 {
		j := d.able(5, 12)
		before, e := member.Most(j)
		want(t, "the error", e, api.OK)
		j.Officials = append(slices.Clone(j.Officials), official("w", "C", d.Intn(3), d.some([]string{"judge", "setter"})...))
		behind, e := member.Most(j)
		want(t, "the error with one more", e, api.OK)
		want(t, "whether there are as many posts as before", behind >= before, true)
		if behind > before {
			more++
		}
	}
	want(t, "whether some were of use", more > 100, true)
}

// P9.5: an official who is replaced has no post, and no other post changes.
func TestReplacedHasNoPost(t *testing.T) {
	d := draw(12)
	replaced := 0
	for range 4000 {
		j := d.able(6, 12)
		a, who := d.appointment(j), d.Intn(len(j.Officials))
		if modelAppointment(j, a) != api.OK {
			continue
		}
		b, e := member.Replaced(j, a, who)
		if e == api.ErrInfeasible {
			continue
		}
		want(t, "the error", e, api.OK)
		want(t, "the error of the replacement", modelAppointment(j, b), api.OK)
		want(t, "whether the official has a post", slices.Contains(b, who), false)
		if slices.Contains(a, who) {
			replaced++
		}
		for post := range a {
			if a[post] == who {
				want(t, "whether the post is filled", b[post] >= 0, true)
			} else {
				want(t, "the official of another post", b[post], a[post])
			}
		}
	}
	want(t, "whether some had posts", replaced > 300, true)
}
