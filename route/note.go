package route

import (
	"slices"

	"crux/api"
	"crux/check"
	"crux/number"
)

// maxGrade is the greatest grade.
const maxGrade = 99

// InForce returns the notes in force, and those that are set aside.
func InForce(l []Note) ([]int, []int, api.Errno) {
	if e := checkNotes(l); e != api.OK {
		return nil, nil, e
	}
	inForce, aside := sift(l)
	return inForce, aside, api.OK
}

// Grade returns the mean grade.
func Grade(l []Note) (api.Rat, api.Errno) {
	inForce, _, e := InForce(l)
	if e = check.First(e, check.If(len(inForce) == 0, api.ErrNone)); e != api.OK {
		return "", e
	}
	total := 0
	for _, n := range inForce {
		total += l[n-1].Grade
	}
	return number.Of(total, len(inForce))
}

func checkNotes(l []Note) api.Errno {
	if len(l) > api.MaxList {
		return api.ErrMany
	}
	return check.Each(l, func(_ int, n Note) api.Errno {
		return check.First(
			check.If(!number.IsName(n.Climber), api.ErrName),
			check.Range(n.Grade, 1, maxGrade),
			check.Range(n.Replaces, 0, api.MaxList),
		)
	})
}

// sift returns the numbers of the notes in force, and of those that are set aside.
func sift(l []Note) ([]int, []int) {
	var inForce, aside []int
	for i, n := range l {
		if n.Replaces != 0 {
			at := slices.Index(inForce, n.Replaces)
			if at < 0 || l[n.Replaces-1].Climber != n.Climber {
				aside = append(aside, i+1)
				continue
			}
			inForce = slices.Delete(inForce, at, at+1)
		}
		inForce = append(inForce, i+1)
	}
	return inForce, aside
}
