package wall

import (
	"math"
	"math/big"
	"math/rand"
	"testing"

	"crux/api"
	"crux/space"
)

// cube returns the six sides of a cube, seen from outside.
func cube() Wall {
	side := func(l ...int) Panel {
		p := Panel{Corners: at(l...)}
		p.Origin = p.Corners[0]
		p.U, p.V = space.Way(p.Corners[0], p.Corners[1]).Place(), space.Way(p.Corners[0], p.Corners[3]).Place()
		return p
	}
	return Wall{Name: "cube", Panels: []Panel{
		side(0, 0, 0, 0, 1, 0, 1, 1, 0, 1, 0, 0),
		side(0, 0, 1, 1, 0, 1, 1, 1, 1, 0, 1, 1),
		side(0, 0, 0, 1, 0, 0, 1, 0, 1, 0, 0, 1),
		side(0, 1, 0, 0, 1, 1, 1, 1, 1, 1, 1, 0),
		side(0, 0, 0, 0, 0, 1, 0, 1, 1, 0, 1, 0),
		side(1, 0, 0, 1, 1, 0, 1, 1, 1, 1, 0, 1),
	}}
}

// P2.3: Neighbours.
func TestNeighbours(t *testing.T) {
	l, e := Neighbours(example())
	want(t, "the chapter's", []any{l, e}, []any{[][2]int{{0, 1}}, api.OK})
	l, e = Neighbours(cube())
	want(t, "a cube", []any{l, e}, []any{[][2]int{{0, 2}, {0, 3}, {0, 4}, {0, 5}, {1, 2}, {1, 3}, {1, 4}, {1, 5}, {2, 4}, {2, 5}, {3, 4}, {3, 5}}, api.OK})
	l, e = Neighbours(Wall{"w", apart(32), nil, nil})
	want(t, "none", []any{l, e}, []any{[][2]int(nil), api.OK})
	back := standing().with(func(p *Panel) { p.Corners = at(0, 0, 3000, 4000, 0, 3000, 4000, 0, 0, 0, 0, 0) })
	l, _ = Neighbours(Wall{"w", []Panel{back, standing()}, nil, nil})
	want(t, "four common edges are one pair", l, [][2]int{{0, 1}})
	three := Wall{"w", []Panel{leaning(), floor3(), standing()}, nil, nil}
	l, _ = Neighbours(three)
	want(t, "not one after the other", l, [][2]int{{0, 2}})
	part := standing().with(func(p *Panel) { p.Corners = at(0, 0, 3000, 3999, 0, 3000, 0, 0, 4000) })
	l, _ = Neighbours(Wall{"w", []Panel{standing(), part}, nil, nil})
	want(t, "a part of an edge is not shared", l, [][2]int(nil))
}

// P2.3: Loose.
func TestLoose(t *testing.T) {
	p, q := standing().Corners, leaning().Corners
	edges := []Edge{{p[0], p[1]}, {p[1], p[2]}, {p[3], p[0]}, {q[1], q[2]}, {q[2], q[3]}, {q[3], q[0]}}
	l, e := Loose(example())
	want(t, "the chapter's", []any{l, e}, []any{edges, api.OK})
	framed := example()
	framed.Frame = []Edge{edges[4], edges[0], {edges[1].B, edges[1].A}, {p[2], p[3]}}
	l, e = Loose(framed)
	want(t, "with a frame, which has edges in their direction", []any{l, e}, []any{[]Edge{edges[1], edges[2], edges[3], edges[5]}, api.OK})
	l, e = Loose(cube())
	want(t, "a cube", []any{l, e}, []any{[]Edge(nil), api.OK})
}

// P2.3: Bend.
func TestBend(t *testing.T) {
	back := standing().with(func(p *Panel) { p.Corners = at(0, 0, 3000, 4000, 0, 3000, 4000, 0, 0, 0, 0, 0) })
	above := standing().with(func(p *Panel) { p.Corners = at(0, 0, 3000, 4000, 0, 3000, 4000, 0, 4000) })
	folded := Wall{"w", []Panel{standing(), back}, nil, nil}
	for _, row := range []struct {
		name string
		w    Wall
		a, b int
		bend api.Rat
		e    api.Errno
	}{
		{"the chapter's", example(), 0, 1, "16/25", api.OK},
		{"the chapter's, from the other side", example(), 1, 0, "16/25", api.OK},
		{"one plane", Wall{"w", []Panel{standing(), above}, nil, nil}, 0, 1, "1", api.OK},
		{"front and back", folded, 0, 1, "-1", api.OK},
		{"a right angle", cube(), 0, 2, "0", api.OK},
		{"no common edge", cube(), 0, 1, "", api.ErrNone},
		{"a panel and itself", example(), 1, 1, "", api.ErrNone},
		{"no first panel", example(), 2, -1, "", api.ErrUnknown},
		{"no second panel", example(), 1, 2, "", api.ErrUnknown},
		{"below 0", example(), -1, 0, "", api.ErrUnknown},
		{"far above", example(), 0, math.MaxInt, "", api.ErrUnknown},
		{"far below", example(), math.MinInt, 0, "", api.ErrUnknown},
	} {
		bend, e := Bend(row.w, row.a, row.b)
		want(t, row.name, []any{bend, e}, []any{row.bend, row.e})
	}
}

// P2.3: Bend of any walls.
func TestRandomBends(t *testing.T) {
	r := rand.New(rand.NewSource(6))
	for range 100 {
		w := randomWall(r)
		for a, p := range w.Panels {
			for b, q := range w.Panels {
				bend, e := Bend(w, a, b)
				if !plainShare(p, q) {
					want(t, "Bend", []any{bend, e}, []any{api.Rat(""), api.ErrNone})
					continue
				}
				x, _ := Normal(p)
				y, _ := Normal(q)
				m, n := slices3(x), slices3(y)
				d := bigDot(m, n)
				d.Mul(d, new(big.Rat).Abs(d))
				d.Quo(d, new(big.Rat).Mul(bigDot(m, m), bigDot(n, n)))
				want(t, "Bend", []any{bend, e}, []any{api.Rat(d.RatString()), api.OK})
			}
		}
	}
}
