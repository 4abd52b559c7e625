package route

import (
	"cmp"
	"math"
	"slices"
	"sort"
	"strconv"

	"crux/api"
	"crux/check"
	"crux/number"
)

// measure is a measure by which routes are compared.
type measure struct {
	name    string
	compare func(a, b Measures) int
}

// Need returns the least reach for which there is a way.
func Need(r Route) (int, api.Errno) {
	if e := CheckRoute(r); e != api.OK {
		return 0, e
	}
	return r.need(), api.OK
}

// Measure returns the measures of a route.
func Measure(r Route) (Measures, api.Errno) {
	if e := CheckRoute(r); e != api.OK {
		return Measures{}, e
	}
	return r.measures(), api.OK
}

// Compare compares two routes.
func Compare(a, b Route) (int, string, api.Errno) {
	if e := check.First(CheckRoute(a), CheckRoute(b)); e != api.OK {
		return 0, "", e
	}
	x, y := a.measures(), b.measures()
	for _, m := range measureOrder() {
		if n := m.compare(x, y); n != 0 {
			return n, m.name, api.OK
		}
	}
	return 0, "", api.OK
}

// measureOrder returns the measures in the sequence in which they decide.
func measureOrder() []measure {
	by := func(number func(m Measures) int) func(a, b Measures) int {
		return func(a, b Measures) int { return cmp.Compare(number(a), number(b)) }
	}
	return []measure{
		{"need", by(func(m Measures) int { return m.Need })},
		{"moves", by(func(m Measures) int { return m.Moves })},
		{"step", by(func(m Measures) int { return m.Step })},
		{"length", func(a, b Measures) int { return compareSpans(a.Length, b.Length) }},
		{"holds", by(func(m Measures) int { return m.Holds })},
	}
}

// compareSpans returns 0 for spans that have a number in common.
func compareSpans(a, b api.Span) int {
	below, _ := number.Order(a.High, b.Low)
	above, _ := number.Order(a.Low, b.High)
	switch {
	case below < 0:
		return -1
	case above > 0:
		return 1
	}
	return 0
}

func (r Route) measures() Measures {
	need := r.need()
	c := climbing{route: r, square: r.square, reach: need}
	m := Measures{
		Need:  need,
		Moves: c.distances(c.goal())[c.start()],
		Holds: len(r.Holds),
	}
	low, high := 0, 0
	for i := 1; i < len(r.Holds); i++ {
		step := r.square(i-1, i)
		length := rootUp(step)
		high += length
		if length*length > step {
			length--
		}
		low += length
		m.Step = max(m.Step, step)
	}
	m.Length = api.Span{Low: api.Rat(strconv.Itoa(low)), High: api.Rat(strconv.Itoa(high))}
	return m
}

// need returns the least reach for which there is a way. One hand can follow the other one along holds, so a hold is reached if the start is possible, and if holds of which neighbours are within the reach lead from the left hand at the start to it.
func (r Route) need() int {
	squares := slices.Repeat([]int{math.MaxInt}, len(r.Holds)) // of the reaches that the holds need
	squares[r.Left] = r.square(r.Left, r.Right)
	done := make([]bool, len(r.Holds))
	for range r.Holds {
		near := nearest(squares, done)
		done[near] = true
		for n, square := range squares {
			squares[n] = min(square, max(squares[near], r.square(near, n)))
		}
	}
	return max(1, rootUp(squares[len(squares)-1]))
}

// nearest returns the number of the first least element among those that are not done, or -1 if all are.
func nearest(l []int, done []bool) int {
	best := -1
	for i, n := range l {
		if !done[i] && (best < 0 || n < l[best]) {
			best = i
		}
	}
	return best
}

// rootUp returns the root of the square of a distance, rounded up.
func rootUp(square int) int {
	return sort.Search(MaxReach, func(n int) bool { return n*n >= square })
}
