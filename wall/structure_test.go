package wall

import (
	"math"
	"math/rand"
	"strconv"
	"strings"
	"testing"

	"crux/api"
)

type wrongWall struct {
	name string
	w    Wall
	e    api.Errno
}

// framed returns n different edges.
func framed(n int) []Edge {
	var l []Edge
	for i := range n {
		l = append(l, Edge{A: place(i, 0, 0), B: place(i, 1, 0)})
	}
	return l
}

// apart returns n panels without common edges.
func apart(n int) []Panel {
	var l []Panel
	for i := range n {
		l = append(l, floor3().with(func(p *Panel) {
			for k := range p.Corners {
				p.Corners[k].Z = i
			}
			p.Origin.Z = i
		}))
	}
	return l
}

// held returns n holds of a panel with 8 holes a column.
func held(n int) []Hold {
	var l []Hold
	for i := range n {
		l = append(l, Hold{"h" + strconv.Itoa(i), 0, i / 8, i % 8})
	}
	return l
}

// wrongWalls are walls with the errors of CheckWall, each one with some of the errors behind it, too.
func wrongWalls() []wrongWall {
	hold := func(h ...Hold) Wall {
		return example().with(func(w *Wall) { w.Holds = append(w.Holds, h...) })
	}
	frame := func(l ...Edge) Wall {
		return example().with(func(w *Wall) { w.Frame, w.Holds[0].Name = l, "" })
	}
	a, b := place(0, 0, 0), place(0, 0, 1)
	l := []wrongWall{
		{"nothing", Wall{}, api.ErrName},
		{"a name with a digit in front", Wall{Name: "1w"}, api.ErrName},
		{"a name that is too long", Wall{Name: strings.Repeat("w", 25), Panels: apart(1)}, api.ErrName},
		{"no panels", Wall{Name: "w", Frame: framed(257)}, api.ErrEmpty},
		{"33 panels", Wall{"w", make([]Panel, 33), framed(257), nil}, api.ErrMany},
		{"33 good panels", Wall{"w", apart(33), nil, nil}, api.ErrMany},
		{"the second panel", Wall{"w", []Panel{standing(), {}, standing()}, framed(257), nil}, api.ErrShape},
		{"the third panel", Wall{"w", []Panel{standing(), standing(), {}}, framed(257), nil}, api.ErrConflict},
		{"one panel twice", Wall{"w", []Panel{standing(), standing()}, framed(257), nil}, api.ErrConflict},
		{"one edge twice", Wall{"w", []Panel{leaning(), floor3(), standing().with(func(p *Panel) { p.Corners = at(0, 0, 3000, 4000, 0, 3000, 4000, 0, 4000) })}, framed(257), nil}, api.ErrConflict},
		{"257 edges", example().with(func(w *Wall) { w.Frame = make([]Edge, 257) }), api.ErrMany},
		{"an edge without length", frame(Edge{a, b}, Edge{b, b}, Edge{place(200000, 0, 0), a}), api.ErrZero},
		{"an edge twice", frame(Edge{a, b}, Edge{b, a}, Edge{a, b}, Edge{b, b}), api.ErrTwice},
		{"an edge without length, twice", frame(Edge{b, b}, Edge{b, b}), api.ErrZero},
		{"65 holds", example().with(func(w *Wall) { w.Holds = make([]Hold, 65) }), api.ErrMany},
		{"a hold without a name", hold(Hold{"", 9, 2000, 0}, Hold{"a", 0, 2, 2}), api.ErrName},
		{"a hold with a name that is none", hold(Hold{"a b", 0, 2, 2}), api.ErrName},
		{"a hold twice", hold(Hold{"a", 9, 2000, 0}), api.ErrTwice},
		{"a hold of no panel", hold(Hold{"d", 2, 2000, 0}, Hold{"", 0, 0, 0}), api.ErrUnknown},
		{"a hold of the panel -1", hold(Hold{"d", -1, 2000, 0}), api.ErrUnknown},
		{"a hold of the last number", hold(Hold{"d", math.MaxInt, 0, 0}), api.ErrUnknown},
		{"a hold of the first number", hold(Hold{"d", math.MinInt, 0, 0}), api.ErrUnknown},
		{"a hold off the grid", hold(Hold{"d", 0, 1001, 0}), api.ErrRange},
		{"a hold far off the grid", hold(Hold{"d", 0, 0, math.MinInt}), api.ErrRange},
		{"a hold off the panel", hold(Hold{"d", 0, 8, 0}), api.ErrPlane},
		{"a hold in a hole that is taken", hold(Hold{"d", 0, 1, 1}), api.ErrConflict},
		{"a hold in the hole of another panel", hold(Hold{"d", 1, 1, 0}), api.ErrConflict},
		{"a hold off the panel, where a place would be 0", Wall{"w", []Panel{standing()}, nil, []Hold{{"a", 0, -1, -1}, {"b", 0, -2, -2}}}, api.ErrPlane},
	}
	for _, n := range far() {
		l = append(l,
			wrongWall{"A far away", frame(Edge{a, b}, Edge{place(n, 0, 0), b}, Edge{a, a}), api.ErrRange},
			wrongWall{"B far away", frame(Edge{a, b}, Edge{a, place(0, 0, n)}), api.ErrRange},
			wrongWall{"both ends far away", frame(Edge{place(0, n, 0), place(0, n, 0)}), api.ErrRange})
	}
	return l
}

// P2.3: CheckWall has the errors in their order, and so have the other functions of walls, beside zero values.
func TestWrongWalls(t *testing.T) {
	away := place(200000, 0, 0)
	for _, row := range wrongWalls() {
		want(t, row.name, CheckWall(row.w), row.e)
		calls := map[string]func() (any, any, api.Errno){
			"Spot":       func() (any, any, api.Errno) { x, e := Spot(row.w, "?"); return x, api.Place{}, e },
			"Find":       func() (any, any, api.Errno) { x, e := Find(row.w, away); return x, 0, e },
			"Neighbours": func() (any, any, api.Errno) { x, e := Neighbours(row.w); return x, [][2]int(nil), e },
			"Loose":      func() (any, any, api.Errno) { x, e := Loose(row.w); return x, []Edge(nil), e },
			"Bend":       func() (any, any, api.Errno) { x, e := Bend(row.w, -1, 99); return x, api.Rat(""), e },
			"Distance":   func() (any, any, api.Errno) { x, e := Distance(row.w, "?", "?"); return x, 0, e },
			"Within":     func() (any, any, api.Errno) { x, e := Within(row.w, "?", -1); return x, []string(nil), e },
			"Blocks":     func() (any, any, api.Errno) { x, e := Blocks(row.w, away, away); return x, []int(nil), e },
			"Sees":       func() (any, any, api.Errno) { x, e := Sees(row.w, "?", "?"); return x, false, e },
			"Moved":      func() (any, any, api.Errno) { x, e := Moved(row.w, away); return x, Wall{}, e },
			"Turned":     func() (any, any, api.Errno) { x, e := Turned(row.w, 1); return x, Wall{}, e },
			"Mirrored":   func() (any, any, api.Errno) { x, e := Mirrored(row.w); return x, Wall{}, e },
			"Print":      func() (any, any, api.Errno) { x, e := Print(row.w); return x, "", e },
			"Picture":    func() (any, any, api.Errno) { x, e := Picture(row.w, -1); return x, "", e },
		}
		for name, call := range calls {
			got, zero, e := call()
			want(t, row.name+": "+name, []any{got, e}, []any{zero, row.e})
		}
	}
}

// P2.3: CheckWall of walls without errors.
func TestRightWalls(t *testing.T) {
	a, b := place(0, 0, 0), place(0, 0, 1)
	for name, w := range map[string]Wall{
		"the chapter's":            example(),
		"one panel":                {"W_1", []Panel{standing()}, nil, nil},
		"32 panels":                {"w", apart(32), nil, nil},
		"256 edges":                {"w", apart(1), framed(256), nil},
		"an edge and back":         {"w", apart(1), []Edge{{a, b}, {b, a}}, nil},
		"edges far away":           {"w", apart(1), []Edge{{place(-100000, 100000, 0), place(100000, 0, -100000)}}, nil},
		"64 holds":                 {"w", []Panel{gridded(8, 8)}, nil, held(64)},
		"the same panel, its back": {"w", []Panel{standing(), standing().with(func(p *Panel) { p.Corners = at(0, 0, 3000, 4000, 0, 3000, 4000, 0, 0, 0, 0, 0) })}, nil, []Hold{{"a", 0, 0, 0}, {"b", 1, 1, 1}}},
	} {
		want(t, name, CheckWall(w), api.OK)
	}
}

// P2.3: Spot and Find.
func TestSpotAndFind(t *testing.T) {
	for _, row := range []struct {
		hold string
		at   api.Place
		e    api.Errno
	}{
		{"a", place(1000, 0, 1000), api.OK},
		{"b", place(1000, 0, 3000), api.OK},
		{"c", place(1000, -1500, 5000), api.OK},
		{"d", api.Place{}, api.ErrUnknown},
		{"", api.Place{}, api.ErrUnknown},
		{"A", api.Place{}, api.ErrUnknown},
	} {
		spot, e := Spot(example(), row.hold)
		want(t, "Spot of "+row.hold, []any{spot, e}, []any{row.at, row.e})
	}
	for _, row := range []struct {
		at api.Place
		n  int
		e  api.Errno
	}{
		{place(1000, 0, 3000), 0, api.OK},
		{place(0, 0, 0), 0, api.OK},
		{place(1000, 0, 1), 0, api.OK},
		{place(1000, -3, 3004), 1, api.OK},
		{place(4000, -3000, 7000), 1, api.OK},
		{place(4001, -3000, 7000), 0, api.ErrNone},
		{place(1000, -4, 3004), 0, api.ErrNone},
		{place(1000, 1, 1), 0, api.ErrNone},
		{place(1000, 3, 2996), 0, api.ErrNone}, // in the plane of the panel 1
		{place(1000, 0, 3001), 0, api.ErrNone}, // in the plane of the panel 0
		{place(1000, 0, 100001), 0, api.ErrRange},
		{place(math.MinInt, 0, 1), 0, api.ErrRange},
	} {
		n, e := Find(example(), row.at)
		want(t, "Find", []any{n, e}, []any{row.n, row.e})
	}
	exchanged := example().with(func(w *Wall) { w.Panels[0], w.Panels[1], w.Holds = leaning(), standing(), nil })
	n, _ := Find(exchanged, place(1000, 0, 3000))
	want(t, "Find, the least one", n, 0)
	n, _ = Find(exchanged, place(1000, 0, 2999))
	want(t, "Find, the other one", n, 1)
}

// P2.3: Spot, Find, Neighbours and Loose of any walls.
func TestRandomWalls(t *testing.T) {
	r := rand.New(rand.NewSource(5))
	for range 100 {
		w := randomWall(r)
		for _, h := range w.Holds {
			spot, e := Spot(w, h.Name)
			hole, none := Hole(w.Panels[h.Panel], h.I, h.J)
			want(t, "Spot", []any{spot, e}, []any{hole, none})
			first := -1
			for n, p := range w.Panels {
				if on, e := On(p, spot); first < 0 && e == api.OK && on >= 0 {
					first = n
				}
			}
			n, e := Find(w, spot)
			want(t, "Find", []any{n, e}, []any{first, api.OK})
		}
		l, e := Neighbours(w)
		want(t, "Neighbours", e, api.OK)
		want(t, "Neighbours", l, plainNeighbours(w))
		loose, e := Loose(w)
		want(t, "Loose", e, api.OK)
		want(t, "Loose", loose, plainLoose(w))
	}
}

// plainEdges are the edges of a panel.
func plainEdges(p Panel) []Edge {
	var l []Edge
	for i, a := range p.Corners {
		l = append(l, Edge{A: a, B: p.Corners[(i+1)%len(p.Corners)]})
	}
	return l
}

func plainShare(p, q Panel) bool {
	for _, a := range plainEdges(p) {
		for _, b := range plainEdges(q) {
			if a.A == b.B && a.B == b.A {
				return true
			}
		}
	}
	return false
}

func plainNeighbours(w Wall) [][2]int {
	var l [][2]int
	for i := range w.Panels {
		for j := i + 1; j < len(w.Panels); j++ {
			if plainShare(w.Panels[i], w.Panels[j]) {
				l = append(l, [2]int{i, j})
			}
		}
	}
	return l
}

func plainLoose(w Wall) []Edge {
	var l []Edge
	for _, p := range w.Panels {
		for _, a := range plainEdges(p) {
			loose := true
			for _, q := range w.Panels {
				for _, b := range plainEdges(q) {
					loose = loose && !(a.A == b.B && a.B == b.A)
				}
			}
			for _, b := range w.Frame {
				loose = loose && a != b
			}
			if loose {
				l = append(l, a)
			}
		}
	}
	return l
}
