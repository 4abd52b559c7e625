package member

import (
	"cmp"
	"slices"

	"crux/api"
	"crux/check"
)

// crew has what appointments depend on. A set, of officials or of posts, is an integer: its bits are those who are in it.
type crew struct {
	loads []int // of the officials
	hours []int // of the posts
	may   []int // for each post the set of officials who may have it
}

// Most returns the greatest number of posts that an appointment fills.
func Most(j Jury) (int, api.Errno) {
	if e := checkCertain(j); e != api.OK {
		return 0, e
	}
	x := crewOf(j)
	return filled(x.fill(x.all())), api.OK
}

// Appoint returns an appointment that fills all posts.
func Appoint(j Jury) ([]int, api.Errno) {
	if e := checkCertain(j); e != api.OK {
		return nil, e
	}
	x := crewOf(j)
	a := x.fill(x.all())
	if filled(a) < len(a) {
		return nil, api.ErrInfeasible
	}
	return a, api.OK
}

// First returns the lexicographically first appointment that fills all posts.
func First(j Jury) ([]int, api.Errno) {
	if e := checkCertain(j); e != api.OK {
		return nil, e
	}
	x := crewOf(j)
	return x.first(x.all())
}

// Excluded returns the smallest set of posts that excludes itself, the lexicographically first one.
func Excluded(j Jury) ([]int, api.Errno) {
	if e := checkCertain(j); e != api.OK {
		return nil, e
	}
	x := crewOf(j)
	if x.fills(x.all()) {
		return nil, api.ErrNone
	}
	best := x.postsOf(x.all())
	for set := range x.all() {
		l := x.postsOf(set)
		isBetter := cmp.Or(cmp.Compare(len(l), len(best)), slices.Compare(l, best)) < 0
		if isBetter && !x.fills(set) {
			best = l
		}
	}
	return best, api.OK
}

// Fairest returns the least number of posts that the official with the most posts may have, if all posts are filled.
func Fairest(j Jury) (int, api.Errno) {
	if e := checkCertain(j); e != api.OK {
		return 0, e
	}
	x := crewOf(j)
	for most := range len(j.Posts) + 1 {
		if x.limited(most).fills(x.all()) {
			return most, api.OK
		}
	}
	return 0, api.ErrInfeasible
}

// Replaced returns the lexicographically first appointment in which others have the posts of an official, and no other post changes.
func Replaced(j Jury, a []int, official int) ([]int, api.Errno) {
	e := check.First(
		CheckAppointment(j, a),
		checkOneOf(j.Officials, official),
		checkCertain(j),
	)
	if e != api.OK {
		return nil, e
	}
	x := crewOf(j)
	set := 0
	for post, has := range a {
		switch has {
		case nobody:
			continue
		case official:
			x.may[post] &^= 1 << official
		default:
			x.may[post] = 1 << has
		}
		set |= 1 << post
	}
	return x.first(set)
}

// checkCertain returns the error of a jury, or ErrLimit if it has too many posts for all sets of them.
func checkCertain(j Jury) api.Errno {
	return check.First(CheckJury(j), check.If(len(j.Posts) > MaxCertain, api.ErrLimit))
}

func crewOf(j Jury) crew {
	var x crew
	for _, o := range j.Officials {
		x.loads = append(x.loads, o.Load)
	}
	for _, p := range j.Posts {
		set := 0
		for i, o := range j.Officials {
			if mayHave(o, p) {
				set |= 1 << i
			}
		}
		x.hours = append(x.hours, p.Hour)
		x.may = append(x.may, set)
	}
	return x
}

// limited returns a crew in which nobody has more than so many posts.
func (x crew) limited(most int) crew {
	x.loads = slices.Clone(x.loads)
	for i, load := range x.loads {
		x.loads[i] = min(load, most)
	}
	return x
}

// all returns the set of all posts. It is the greatest one.
func (x crew) all() int {
	return 1<<len(x.hours) - 1
}

// postsOf returns the posts of a set.
func (x crew) postsOf(set int) []int {
	var l []int
	for post := range x.hours {
		if isIn(set, post) {
			l = append(l, post)
		}
	}
	return l
}

// fills returns whether an appointment fills all posts of a set.
func (x crew) fills(set int) bool {
	return filled(x.fill(set)) == len(x.postsOf(set))
}

// first returns the lexicographically first appointment that fills exactly the posts of a set.
func (x crew) first(set int) ([]int, api.Errno) {
	if !x.fills(set) {
		return nil, api.ErrInfeasible
	}
	x.may = slices.Clone(x.may)
	for _, post := range x.postsOf(set) {
		all := x.may[post]
		for i := range x.loads {
			x.may[post] = all & (1 << i)
			if x.fills(set) {
				break
			}
		}
	}
	return x.fill(set), api.OK
}

// fill returns an appointment that fills as many posts of a set as possible, and no others. Each post is filled in turn; for it others may go from official to official, so that a post that once is filled remains so. If this is not possible now, it will not be later either.
func (x crew) fill(set int) []int {
	a := slices.Repeat([]int{nobody}, len(x.hours))
	// The posts, and the officials with another free hour, that have been tried for the same post: none of them leads to a place now.
	var tried, asked int
	var place func(post int) bool
	move := func(from int) bool { return !isIn(tried, from) && place(from) }
	place = func(post int) bool {
		tried |= 1 << post
	officials:
		for i, load := range x.loads {
			if !isIn(x.may[post], i) {
				continue
			}
			posts := postsBy(a, i)
			for _, other := range posts {
				if x.hours[other] != x.hours[post] {
					continue
				}
				// Only this post can make room, however great the load is.
				if move(other) {
					a[post] = i
					return true
				}
				continue officials
			}
			if isIn(asked, i) {
				continue
			}
			asked |= 1 << i
			if len(posts) < load || slices.ContainsFunc(posts, move) {
				a[post] = i
				return true
			}
		}
		return false
	}
	for _, post := range x.postsOf(set) {
		tried, asked = 0, 0
		place(post)
	}
	return a
}

// postsBy returns the posts of an official in an appointment.
func postsBy(a []int, official int) []int {
	var posts []int
	for post, has := range a {
		if has == official {
			posts = append(posts, post)
		}
	}
	return posts
}

// filled returns how many posts an appointment fills.
func filled(a []int) int {
	n := 0
	for _, official := range a {
		if official != nobody {
			n++
		}
	}
	return n
}

func isIn(set, i int) bool {
	return set>>i&1 == 1
}
