package start_test

import (
	"math"
	"slices"
	"strings"
	"testing"

	"crux/api"
	"crux/start"
)

// P6.2: the chapter's example 2.
func TestExampleOfNations(t *testing.T) {
	pairs, e := start.Neighbours(four(), []int{0, 1, 2, 3})
	want(t, "Neighbours", pairs, 1)
	want(t, "its error", e, api.OK)
	fewest, e := start.Fewest(four())
	want(t, "Fewest", fewest, 1)
	want(t, "its error", e, api.OK)
	three := slices.Delete(four(), 1, 2)
	fewest, _ = start.Fewest(three)
	want(t, "Fewest without ben", fewest, 0)
	order, e := start.Apart(three)
	want(t, "Apart without ben", order[1], 1)
	want(t, "its error", e, api.OK)
}

// P6.2: neighbours are one directly behind the other, and of the same nation.
func TestNeighbours(t *testing.T) {
	for _, row := range []struct {
		nations string
		order   []int
		pairs   int
	}{
		{"", nil, 0},
		{"n", []int{0}, 0},
		{"nn", []int{1, 0}, 1},
		{"ns", []int{1, 0}, 0},
		{"nnn", []int{2, 0, 1}, 2},
		{"nsn", []int{0, 1, 2}, 0},
		{"nsn", []int{1, 0, 2}, 1},
		{"nsn", []int{0, 2, 1}, 1},
		{"nsns", []int{0, 2, 1, 3}, 2},
		{"nsns", []int{0, 1, 3, 2}, 1},
		{"nNnN", []int{0, 1, 2, 3}, 0},
	} {
		pairs, e := start.Neighbours(ofNations(row.nations), row.order)
		want(t, "Neighbours of "+row.nations, pairs, row.pairs)
		want(t, "its error", e, api.OK)
	}
}

// P6.2: the errors of starters, and those of an order.
func TestErrorsOfNeighbours(t *testing.T) {
	all := make([]int, 160)
	for i := range all {
		all[i] = i
	}
	wrong := []start.Starter{starter("ann", "", 0)}
	for _, row := range []struct {
		what  string
		l     []start.Starter
		order []int
		e     api.Errno
	}{
		{"the most", starters(160), all, api.OK},
		{"starters with an error", wrong, []int{7}, api.ErrName},
		{"too many starters", starters(161), all, api.ErrMany},
		{"a number of nobody", four(), []int{0, 4, 0}, api.ErrUnknown},
		{"a number below 0", four(), []int{-1}, api.ErrUnknown},
		{"the greatest number", four(), []int{math.MaxInt}, api.ErrUnknown},
		{"a number without starters", nil, []int{0}, api.ErrUnknown},
		{"a number twice", four(), []int{0, 3, 0, 9}, api.ErrTwice},
		{"a number once more than all", four(), []int{0, 1, 2, 3, 3}, api.ErrTwice},
		{"another number than all", four(), []int{0, 1, 2, 3, 4}, api.ErrUnknown},
		{"one who is missing", four(), []int{0, 1, 2}, api.ErrNone},
		{"all who are missing", four(), nil, api.ErrNone},
	} {
		pairs, e := start.Neighbours(row.l, row.order)
		want(t, row.what, e, row.e)
		want(t, row.what+": a number beside an error", e == api.OK || pairs == 0, true)
	}
}

// checkApart examines whether an order is a start list with as many neighbours as Fewest says.
func checkApart(t *testing.T, l []start.Starter, fewest int) {
	t.Helper()
	got, e := start.Fewest(l)
	want(t, "Fewest", got, fewest)
	want(t, "its error", e, api.OK)
	order, e := start.Apart(l)
	want(t, "the error of Apart", e, api.OK)
	pairs, e := start.Neighbours(l, order)
	want(t, "whether Apart is a start list", e, api.OK)
	want(t, "the neighbours of Apart", pairs, fewest)
}

// P6.2: the fewest neighbours, and a start list with them.
func TestFewestAndApart(t *testing.T) {
	for _, row := range []struct {
		nations string
		fewest  int
	}{
		{"", 0},
		{"n", 0},
		{"nn", 1},
		{"ns", 0},
		{"nns", 0},
		{"nnns", 1},
		{"nnnns", 2},
		{"snnnn", 2},
		{"nnnss", 0},
		{"nnsse", 0},
		{"nnnse", 0},
		{"nnnnse", 1},
		{"nnssee", 0},
		{"nnnsss", 0},
		{"eessnnnn", 0},
		{"nnnnnnnnnn", 9},
		{"nnnnnnnnnnse", 7},
		{strings.Repeat("n", 160), 159},
		{strings.Repeat("n", 80) + strings.Repeat("s", 80), 0},
		{strings.Repeat("n", 81) + strings.Repeat("s", 79), 1},
		{strings.Repeat("nse", 53), 0},
	} {
		checkApart(t, ofNations(row.nations), row.fewest)
	}
}

// P6.2: the fewest neighbours are those of the best of all start lists.
func TestFewestByTheModel(t *testing.T) {
	d := draw(2)
	for range 150 {
		l := d.starters(7)
		checkApart(t, l, modelFewest(l))
	}
}

// P6.2: the neighbours of any start list.
func TestNeighboursByTheModel(t *testing.T) {
	d := draw(3)
	for range 1000 {
		l := d.starters(30)
		order := d.Perm(len(l))
		pairs, e := start.Neighbours(l, order)
		want(t, "Neighbours", pairs, modelNeighbours(l, order))
		want(t, "its error", e, api.OK)
	}
}

// P6.2: the errors of Fewest and Apart are those of starters.
func TestErrorsOfApart(t *testing.T) {
	for _, row := range []struct {
		l []start.Starter
		e api.Errno
	}{
		{starters(161), api.ErrMany},
		{append(four(), starter("a b", "north", 0)), api.ErrName},
		{append(four(), starter("ann", "north", 0)), api.ErrTwice},
		{append(four(), starter("eve", "", 0)), api.ErrName},
		{append(four(), starter("eve", "north", -1)), api.ErrRange},
	} {
		fewest, e := start.Fewest(row.l)
		want(t, "the error of Fewest", e, row.e)
		want(t, "Fewest beside an error", fewest, 0)
		order, e := start.Apart(row.l)
		want(t, "the error of Apart", e, row.e)
		want(t, "Apart beside an error", order, []int(nil))
	}
}
