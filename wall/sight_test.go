package wall

import (
	"math"
	"math/rand"
	"slices"
	"testing"

	"crux/api"
)

// P2.4: Distance.
func TestDistance(t *testing.T) {
	for _, row := range []struct {
		a, b   string
		square int
		e      api.Errno
	}{
		{"a", "b", 4000000, api.OK},
		{"b", "c", 6250000, api.OK},
		{"c", "b", 6250000, api.OK},
		{"a", "c", 1500*1500 + 4000*4000, api.OK},
		{"a", "a", 0, api.OK},
		{"a", "d", 0, api.ErrUnknown},
		{"d", "a", 0, api.ErrUnknown},
		{"", "", 0, api.ErrUnknown},
	} {
		square, e := Distance(example(), row.a, row.b)
		want(t, "Distance", []any{square, e}, []any{row.square, row.e})
	}
	wide := Panel{at(-100000, -100000, -100000, 100000, -100000, -100000, 100000, 100000, 100000, -100000, 100000, 100000), place(0, 0, 0), place(100000, 0, 0), place(0, 100000, 100000)}
	square, e := Distance(Wall{"w", []Panel{wide}, nil, []Hold{{"a", 0, -1, -1}, {"b", 0, 1, 1}}}, "a", "b")
	want(t, "the greatest distance", []any{square, e}, []any{120000000000, api.OK})
}

// P2.4: Within.
func TestWithin(t *testing.T) {
	for _, row := range []struct {
		hold  string
		reach int
		names []string
		e     api.Errno
	}{
		{"b", 2000, []string{"a"}, api.OK},
		{"b", 2500, []string{"a", "c"}, api.OK},
		{"b", 1999, nil, api.OK},
		{"b", 2499, []string{"a"}, api.OK},
		{"b", 0, nil, api.OK},
		{"c", 1000000, []string{"a", "b"}, api.OK},
		{"b", 1000001, nil, api.ErrRange},
		{"b", -1, nil, api.ErrRange},
		{"b", math.MaxInt, nil, api.ErrRange},
		{"b", math.MinInt, nil, api.ErrRange},
		{"d", -1, nil, api.ErrUnknown},
		{"", 0, nil, api.ErrUnknown},
	} {
		names, e := Within(example(), row.hold, row.reach)
		want(t, "Within", names, row.names)
		want(t, "Within", e, row.e)
	}
	exchanged := example()
	exchanged.Holds[0], exchanged.Holds[2] = exchanged.Holds[2], exchanged.Holds[0]
	names, _ := Within(exchanged, "b", 2500)
	want(t, "in the order of the wall", names, []string{"c", "a"})
}

// P2.4: Blocks.
func TestBlocks(t *testing.T) {
	w := Wall{"w", []Panel{
		standing(),
		{at(0, 10, 0, 10, 10, 0, 0, 10, 10), place(0, 10, 0), place(1, 0, 0), place(0, 0, 1)},
		{at(0, 20, 10, 10, 20, 0, 0, 20, 0), place(0, 20, 0), place(1, 0, 0), place(0, 0, 1)},
	}, nil, nil}
	for _, row := range []struct {
		name string
		a, b api.Place
		l    []int
		e    api.Errno
	}{
		{"the chapter's", place(1000, 1000, 1000), place(1000, -1000, 1000), []int{0}, api.OK},
		{"through all of them", place(3, -5, 3), place(3, 25, 3), []int{0, 1, 2}, api.OK},
		{"and back", place(3, 25, 3), place(3, -5, 3), []int{0, 1, 2}, api.OK},
		{"from a panel", place(3, 0, 3), place(3, 25, 3), []int{1, 2}, api.OK},
		{"to a panel", place(3, -5, 3), place(3, 10, 3), []int{0}, api.OK},
		{"from panel to panel", place(3, 10, 3), place(3, 20, 3), nil, api.OK},
		{"within a panel", place(1, 10, 1), place(5, 10, 5), nil, api.OK},
		{"a place and itself", place(1, 10, 1), place(1, 10, 1), nil, api.OK},
		{"through a corner", place(0, 5, 0), place(0, 15, 0), []int{1}, api.OK},
		{"through a border", place(5, 5, 5), place(5, 15, 5), []int{1}, api.OK},
		{"beside a border", place(6, 5, 5), place(6, 15, 5), nil, api.OK},
		{"slanting, through a border", place(0, 5, 10), place(10, 15, 0), []int{1}, api.OK},
		{"slanting, just inside", place(0, 5, 10), place(9, 15, 0), []int{1}, api.OK},
		{"slanting, just outside", place(0, 5, 10), place(11, 15, 0), nil, api.OK},
		{"in line with an edge, outside", place(-5, 5, 0), place(-5, 15, 0), nil, api.OK},
		{"from far to far", place(-100000, -100000, -100000), place(100000, 100000, 100000), []int{0}, api.OK},
		{"the first place", place(200000, 0, 0), place(0, 0, 0), nil, api.ErrRange},
		{"the second place", place(0, 0, 0), place(0, 0, -100001), nil, api.ErrRange},
		{"a place out of all numbers", place(0, 0, 0), place(math.MinInt, math.MaxInt, 0), nil, api.ErrRange},
	} {
		l, e := Blocks(w, row.a, row.b)
		want(t, row.name, l, row.l)
		want(t, row.name, e, row.e)
	}
}

// P2.4: Sees.
func TestSees(t *testing.T) {
	w := example().with(func(w *Wall) {
		w.Panels = append(w.Panels, Panel{at(0, -500, 2000, 4000, -500, 2000, 4000, -500, 4000, 0, -500, 4000), place(0, -500, 2000), place(100, 0, 0), place(0, 0, 100)})
	})
	for _, row := range []struct {
		w    Wall
		a, b string
		sees bool
		e    api.Errno
	}{
		{example(), "a", "c", true, api.OK},
		{example(), "c", "a", true, api.OK},
		{example(), "a", "a", true, api.OK},
		{example(), "a", "b", true, api.OK},
		{w, "a", "c", false, api.OK},
		{w, "c", "a", false, api.OK},
		{w, "a", "b", true, api.OK},
		{w, "b", "c", false, api.OK},
		{w, "a", "d", false, api.ErrUnknown},
		{w, "d", "a", false, api.ErrUnknown},
	} {
		sees, e := Sees(row.w, row.a, row.b)
		want(t, "Sees "+row.a+row.b, []any{sees, e}, []any{row.sees, row.e})
	}
}

// P2.4: the same for any walls, and places anywhere.
func TestRandomSight(t *testing.T) {
	r := rand.New(rand.NewSource(7))
	blocked := 0
	for range 100 {
		w := randomWall(r)
		places := []api.Place{{}, randomPlace(r, 40), randomPlace(r, 40), randomPlace(r, 100000)}
		for _, h := range w.Holds {
			spot, _ := Spot(w, h.Name)
			places = append(places, spot)
		}
		for _, a := range places {
			for _, b := range places {
				var all []int
				for n, p := range w.Panels {
					if bigStands(p, a, b) {
						all = append(all, n)
					}
				}
				l, e := Blocks(w, a, b)
				want(t, "Blocks", e, api.OK)
				want(t, "Blocks", l, all)
				blocked += len(l)
			}
		}
		for _, h := range w.Holds {
			for _, k := range w.Holds {
				a, _ := Spot(w, h.Name)
				b, _ := Spot(w, k.Name)
				l, _ := Blocks(w, a, b)
				sees, e := Sees(w, h.Name, k.Name)
				want(t, "Sees", []any{sees, e}, []any{len(l) == 0, api.OK})
				square, e := Distance(w, h.Name, k.Name)
				d := bigMinus(slices3(a), slices3(b))
				want(t, "Distance", []any{int64(square), e}, []any{bigDot(d, d).Num().Int64(), api.OK})
			}
		}
	}
	want(t, "something is blocked", blocked > 500, true)
}

// P2.4: the same for large panels, and places as far away as they may be.
func TestSightFarAway(t *testing.T) {
	r := rand.New(rand.NewSource(17))
	blocked := 0
	for range 100 {
		w := Wall{Name: "w", Panels: []Panel{randomPanel(r, 7000), randomPanel(r, 7000)}}
		w.Panels[1].Corners = slices.Concat(w.Panels[1].Corners[1:], w.Panels[1].Corners[:1])
		for range 20 {
			a, b := randomPlace(r, 100000), randomPlace(r, 100000)
			var all []int
			for n, p := range w.Panels {
				if bigStands(p, a, b) {
					all = append(all, n)
				}
			}
			l, e := Blocks(w, a, b)
			want(t, "Blocks", e, api.OK)
			want(t, "Blocks", l, all)
			blocked += len(l)
		}
	}
	want(t, "something is blocked", blocked > 50, true)
}
