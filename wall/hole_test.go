package wall

import (
	"math"
	"math/rand"
	"strings"
	"testing"

	"crux/api"
	"crux/space"
)

// thin is a panel with three holes, at opposite ends of the grid.
func thin() Panel {
	return Panel{at(-1000, 0, -1000, 1000, 0, 999, -999, 0, -999), place(0, 0, 0), place(1, 0, 0), place(0, 0, 1)}
}

// P2.2: Hole.
func TestHole(t *testing.T) {
	for _, row := range []struct {
		p    Panel
		i, j int
		at   api.Place
		e    api.Errno
	}{
		{standing(), 1, 1, place(1000, 0, 1000), api.OK},
		{standing(), -1, -1, place(0, 0, 0), api.OK},
		{standing(), 7, 5, place(4000, 0, 3000), api.OK},
		{standing(), 8, 5, api.Place{}, api.ErrPlane},
		{standing(), -2, 0, api.Place{}, api.ErrPlane},
		{standing(), 0, 6, api.Place{}, api.ErrPlane},
		{standing(), 1000, 1000, api.Place{}, api.ErrPlane},
		{standing(), -1000, -1000, api.Place{}, api.ErrPlane},
		{standing(), 1001, 0, api.Place{}, api.ErrRange},
		{standing(), 0, 1001, api.Place{}, api.ErrRange},
		{standing(), -1001, 0, api.Place{}, api.ErrRange},
		{standing(), 0, -1001, api.Place{}, api.ErrRange},
		{standing(), 8, math.MaxInt, api.Place{}, api.ErrRange},
		{standing(), math.MinInt, 8, api.Place{}, api.ErrRange},
		{leaning(), 1, 5, place(1000, -1500, 5000), api.OK},
		{leaning(), 1, -1, api.Place{}, api.ErrPlane},
		{thin(), 1000, 999, place(1000, 0, 999), api.OK},
		{thin(), 1000, 1000, api.Place{}, api.ErrPlane},
		{thin(), -1000, -1000, place(-1000, 0, -1000), api.OK},
		{thin().with(func(p *Panel) { p.U, p.V = place(-100000, 0, 0), place(0, 0, 100000) }), 1000, -1000, api.Place{}, api.ErrPlane},
	} {
		spot, e := Hole(row.p, row.i, row.j)
		want(t, "Hole", []any{spot, e}, []any{row.at, row.e})
	}
}

// gridded returns a panel of n times m holes.
func gridded(n, m int) Panel {
	n, m = n-1, m-1
	return Panel{at(0, 0, 0, n, 0, 0, n, 0, m, 0, 0, m), place(0, 0, 0), place(1, 0, 0), place(0, 0, 1)}
}

// P2.2: Holes of ordinary panels, and the number of holes that are too many.
func TestHoles(t *testing.T) {
	l, e := Holes(standing())
	want(t, "Holes", []any{len(l), e}, []any{63, api.OK})
	n := 0
	for i := -1; i <= 7; i++ {
		for j := -1; j <= 5; j++ {
			want(t, "Holes", l[n], [2]int{i, j})
			n++
		}
	}
	l, _ = Holes(floor3().with(func(p *Panel) { p.Origin, p.U, p.V = place(5, 5, 0), place(0, 5, 0), place(-5, 0, 0) }))
	want(t, "Holes of a triangle", l, [][2]int{{-1, -1}, {-1, 0}, {-1, 1}, {0, 0}, {0, 1}, {1, 1}})
	l, e = Holes(floor3().with(func(p *Panel) { p.Origin, p.U, p.V = place(-1, 5, 0), place(0, 7, 0), place(100000, 0, 0) }))
	want(t, "no hole", []any{l, e}, []any{[][2]int(nil), api.OK})
	for _, row := range []struct {
		n, m int
		e    api.Errno
	}{{16, 16, api.OK}, {2, 128, api.OK}, {128, 2, api.OK}, {257, 2, api.ErrMany}, {2, 129, api.ErrMany}, {2, 257, api.ErrMany}, {1001, 1001, api.ErrMany}} {
		l, e := Holes(gridded(row.n, row.m))
		want(t, "many holes", e, row.e)
		want(t, "many holes", len(l), map[api.Errno]int{api.OK: row.n * row.m}[e])
	}
	l, e = Holes(thin())
	want(t, "a thin panel", []any{l, e}, []any{[][2]int{{-1000, -1000}, {-999, -999}, {1000, 999}}, api.OK})
	l, e = Holes(thin().with(func(p *Panel) { p.Corners[1].Z = 1000 }))
	want(t, "no triangle", []any{l, e}, []any{[][2]int(nil), api.ErrShape})
	l, e = Holes(thin().with(func(p *Panel) { p.Corners[1].Z, p.Corners[2].X = 1000, -1000 }))
	want(t, "a diagonal of holes", []any{l, e}, []any{[][2]int(nil), api.ErrMany})
}

// allHoles tries every hole.
func allHoles(p Panel) [][2]int {
	var l [][2]int
	f, _ := faceOf(p)
	for i := -MaxGrid; i <= MaxGrid; i++ {
		for j := -MaxGrid; j <= MaxGrid; j++ {
			if _, e := f.hole(i, j); e == api.OK {
				l = append(l, [2]int{i, j})
			}
		}
	}
	return l
}

// P2.2: Holes has those that Hole has, also at the ends of the grid.
func TestAllHoles(t *testing.T) {
	edge := at(-9, 0, -10, 10, 0, 11, -10, 0, 12)
	for _, p := range []Panel{
		standing(),
		thin().with(func(p *Panel) {
			p.Corners[1].Z, p.Corners[2].X, p.U, p.V = 1000, -1000, place(7, 0, 0), place(3, 0, 10)
		}),
		{edge, place(5000, 0, -4000), place(-5, 0, 0), place(0, 0, 4)},
		{edge, place(5010, 0, 4000), place(-5, 0, 0), place(3, 0, -4)},
	} {
		l, e := Holes(p)
		want(t, "Holes", e, api.OK)
		want(t, "Holes", l, allHoles(p))
	}
}

// plainOn is On, written as the chapter has it, for a small panel.
func plainOn(p Panel, at api.Place) int {
	c, on := p.Corners, 1
	vector := space.Way(c[0], c[1]).Cross(space.Way(c[1], c[2]))
	for _, e := range plainEdges(p) {
		on = min(on, sign(space.Way(e.A, e.B).Cross(space.Way(e.A, at)).Dot(vector)))
	}
	return on
}

// P2.2: the same for any panels, whose holes are near 0.
func TestRandomHoles(t *testing.T) {
	r := rand.New(rand.NewSource(4))
	for range 200 {
		f := randomFlat(r, 9)
		p := f.panel(randomPoints(r, f.spread))
		a, b, c, d := r.Intn(5)-2, r.Intn(5)-2, r.Intn(5)-2, r.Intn(5)-2
		if a*d == b*c {
			continue
		}
		u, v := space.Of(p.U), space.Of(p.V)
		p.U, p.V = u.Times(a).Plus(v.Times(b)).Place(), u.Times(c).Plus(v.Times(d)).Place()
		var all [][2]int
		for i := -25; i <= 25; i++ {
			for j := -25; j <= 25; j++ {
				spot := space.Of(p.Origin).Plus(space.Of(p.U).Times(i)).Plus(space.Of(p.V).Times(j)).Place()
				inside := plainOn(p, spot) >= 0
				if inside {
					all = append(all, [2]int{i, j})
				}
				_, e := Hole(p, i, j)
				want(t, "Hole", e == api.OK, inside)
			}
		}
		l, e := Holes(p)
		want(t, "Holes", e, api.OK)
		want(t, "Holes", l, all)
	}
}

// P2.2: Picture.
func TestPicture(t *testing.T) {
	w := Wall{"w", []Panel{square(), leaning()}, nil, []Hold{{"a", 0, 0, 0}, {"b", 0, 2, 1}}}
	s, e := Picture(w, 0)
	want(t, "the chapter's picture", []any{s, e}, []any{"...\n..#\n#..\n", api.OK})
	w.Panels[1] = standing()
	w.Panels[1].Origin, w.Panels[1].U = place(2000, 0, 500), place(1000, 0, 0)
	w.Holds = []Hold{{"a", 0, 0, 1}, {"b", 1, 1, 0}}
	s, _ = Picture(w, 0)
	want(t, "with the holds of this panel only", s, "...\n#..\n...\n")
	s, _ = Picture(w, 1)
	want(t, "with numbers below 0", s, ".....\n.....\n.....\n.....\n.....\n...#.\n.....\n")
	triangle := Wall{"w", []Panel{floor3().with(func(p *Panel) { p.U, p.V = place(5, 0, 0), place(0, 5, 0) })}, nil, []Hold{{"a", 0, 1, 1}}}
	s, _ = Picture(triangle, 0)
	want(t, "with blanks", s, ".  \n.# \n...\n")
	s, e = Picture(Wall{"w", []Panel{thin()}, nil, nil}, 0)
	lines := strings.Split(s, "\n")
	want(t, "a thin panel", []any{len(lines), e}, []any{2001, api.OK})
	want(t, "a thin panel, the first line", lines[0], strings.Repeat(" ", 2000)+".")
	want(t, "a thin panel, the last line but one", lines[1998], " ."+strings.Repeat(" ", 1999))
	want(t, "a thin panel, the last line", lines[1999], "."+strings.Repeat(" ", 2000))
}

// P2.2: the errors of Picture in their order.
func TestPictureErrors(t *testing.T) {
	none := floor3().with(func(p *Panel) { p.Origin, p.U, p.V = place(-1, 5, 0), place(0, 7, 0), place(100000, 0, 0) })
	w := Wall{"w", []Panel{none, gridded(2, 129), standing()}, nil, nil}
	for _, row := range []struct {
		w     Wall
		panel int
		e     api.Errno
	}{
		{w, 0, api.ErrNone},
		{w, 1, api.ErrMany},
		{w, 3, api.ErrUnknown},
		{w, -1, api.ErrUnknown},
		{w, math.MaxInt, api.ErrUnknown},
		{w, math.MinInt, api.ErrUnknown},
		{Wall{}, -1, api.ErrName},
		{Wall{Name: "w"}, 0, api.ErrEmpty},
	} {
		s, e := Picture(row.w, row.panel)
		want(t, "Picture", []any{s, e}, []any{"", row.e})
	}
}
