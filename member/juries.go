package member

import (
	"slices"

	"crux/api"
	"crux/check"
)

const (
	// maxRoles is the greatest number of roles of an official.
	maxRoles = 16
	// nobody stands in an appointment for no official.
	nobody = -1
)

// CheckJury returns the first error of a jury, or OK.
func CheckJury(j Jury) api.Errno {
	return check.First(
		checkList(j.Officials, MaxOfficials, checkOfficial),
		checkList(j.Posts, MaxPosts, checkPost),
	)
}

// Serves returns whether an official may have a post.
func Serves(j Jury, official, post int) (bool, api.Errno) {
	e := check.First(
		CheckJury(j),
		checkOneOf(j.Officials, official),
		checkOneOf(j.Posts, post),
	)
	if e != api.OK {
		return false, e
	}
	return mayHave(j.Officials[official], j.Posts[post]), api.OK
}

// CheckAppointment returns the first error of an appointment, or OK.
func CheckAppointment(j Jury, a []int) api.Errno {
	if e := check.First(CheckJury(j), check.If(len(a) != len(j.Posts), api.ErrShape)); e != api.OK {
		return e
	}
	if e := check.Each(a, j.checkOfficialOf); e != api.OK {
		return e
	}
	return check.Each(a, func(post, _ int) api.Errno { return j.checkPostsUpTo(a, post) })
}

// checkOfficialOf returns ErrUnknown if a number is not that of an official, and ErrRule if this one may not have a post.
func (j Jury) checkOfficialOf(post, official int) api.Errno {
	if official == nobody {
		return api.OK
	}
	if e := checkOneOf(j.Officials, official); e != api.OK {
		return e
	}
	return check.If(!mayHave(j.Officials[official], j.Posts[post]), api.ErrRule)
}

// checkPostsUpTo returns ErrTwice if the official of a post has one before it at the same hour, and ErrMany if the official has too many posts with it.
func (j Jury) checkPostsUpTo(a []int, post int) api.Errno {
	official := a[post]
	if official == nobody {
		return api.OK
	}
	isSameHour := func(other int) bool { return j.Posts[other].Hour == j.Posts[post].Hour }
	before := postsBy(a[:post], official)
	return check.First(
		check.If(slices.ContainsFunc(before, isSameHour), api.ErrTwice),
		check.If(len(before) >= j.Officials[official].Load, api.ErrMany),
	)
}

func checkOfficial(before []Official, x Official) api.Errno {
	isSame := func(other Official) bool { return other.Name == x.Name }
	return check.First(
		checkName(x.Name),
		checkName(x.Nation),
		check.If(slices.ContainsFunc(before, isSame), api.ErrTwice),
		checkNames(x.Roles, maxRoles),
		check.Range(x.Load, 0, MaxPosts),
	)
}

func checkPost(before []Post, x Post) api.Errno {
	isSame := func(other Post) bool { return other.Name == x.Name }
	return check.First(
		checkName(x.Name),
		checkName(x.Role),
		check.If(slices.ContainsFunc(before, isSame), api.ErrTwice),
		checkDay(x.Hour),
		checkNames(x.Nations, api.MaxClimbers),
	)
}

// checkOneOf returns ErrUnknown if a list has no element of a number.
func checkOneOf[T any](l []T, i int) api.Errno {
	return check.If(i < 0 || i >= len(l), api.ErrUnknown)
}

func mayHave(x Official, p Post) bool {
	return slices.Contains(x.Roles, p.Role) && !slices.Contains(p.Nations, x.Nation)
}
