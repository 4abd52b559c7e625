package wall

import (
	"math/rand"
	"slices"
	"testing"

	"crux/api"
)

// turning is a change of walls, and the same change of places.
type turning struct {
	name  string
	wall  func(w Wall) (Wall, api.Errno)
	place func(a api.Place) api.Place
	edge  func(e Edge) Edge
}

func randomTurnings(r *rand.Rand) []turning {
	by := randomPlace(r, 90000)
	move := func(a api.Place) api.Place { return place(a.X+by.X, a.Y+by.Y, a.Z+by.Z) }
	turn := func(a api.Place) api.Place { return place(-a.Y, a.X, a.Z) }
	mirror := func(a api.Place) api.Place { return place(-a.X, a.Y, a.Z) }
	return []turning{
		{"Moved", func(w Wall) (Wall, api.Errno) { return Moved(w, by) }, move, func(e Edge) Edge { return Edge{move(e.A), move(e.B)} }},
		{"Turned", func(w Wall) (Wall, api.Errno) { return Turned(w, 1) }, turn, func(e Edge) Edge { return Edge{turn(e.A), turn(e.B)} }},
		{"Mirrored", Mirrored, mirror, func(e Edge) Edge { return Edge{mirror(e.B), mirror(e.A)} }},
	}
}

// P2.6: moves, turns and mirrors keep areas, distances, loose edges, and what stands between places.
func TestChangesKeep(t *testing.T) {
	r := rand.New(rand.NewSource(9))
	for range 60 {
		w := randomWall(r)
		for _, c := range randomTurnings(r) {
			other, e := c.wall(w)
			want(t, c.name, e, api.OK)
			want(t, c.name, CheckWall(other), api.OK)
			for i := range w.Panels {
				x, _ := Area(w.Panels[i])
				y, _ := Area(other.Panels[i])
				want(t, c.name+": Area", y, x)
				k, _ := Holes(w.Panels[i])
				l, _ := Holes(other.Panels[i])
				want(t, c.name+": Holes", l, k)
			}
			for _, h := range w.Holds {
				x, _ := Spot(w, h.Name)
				y, _ := Spot(other, h.Name)
				want(t, c.name+": Spot", y, c.place(x))
				for _, k := range w.Holds {
					x, _ := Distance(w, h.Name, k.Name)
					y, _ := Distance(other, h.Name, k.Name)
					want(t, c.name+": Distance", y, x)
					seen, _ := Sees(w, h.Name, k.Name)
					again, _ := Sees(other, h.Name, k.Name)
					want(t, c.name+": Sees", again, seen)
				}
			}
			want(t, c.name+": Loose", sortedEdges(Loose(other)), changedEdges(c.edge, w))
			for range 20 {
				a, b := randomPlace(r, 40), randomPlace(r, 40)
				x, _ := Blocks(w, a, b)
				y, _ := Blocks(other, c.place(a), c.place(b))
				want(t, c.name+": Blocks", y, x)
			}
		}
	}
}

func sortedEdges(l []Edge, _ api.Errno) []Edge {
	coordinates := func(e Edge) []int { return []int{e.A.X, e.A.Y, e.A.Z, e.B.X, e.B.Y, e.B.Z} }
	slices.SortFunc(l, func(a, b Edge) int { return slices.Compare(coordinates(a), coordinates(b)) })
	return l
}

// changedEdges returns the loose edges of a wall after a change.
func changedEdges(change func(e Edge) Edge, w Wall) []Edge {
	l, e := Loose(w)
	return sortedEdges(changed(l, change), e)
}

// P2.6: four quarters, or two mirrors, lead back.
func TestChangesBack(t *testing.T) {
	r := rand.New(rand.NewSource(10))
	for range 60 {
		w := randomWall(r)
		x := w
		for range 4 {
			x, _ = Turned(x, 1)
		}
		want(t, "four quarters", x, w)
		x, _ = Turned(w, 4)
		want(t, "four quarters at once", x, w)
		x, _ = Mirrored(w)
		x, _ = Mirrored(x)
		want(t, "two mirrors", x, w)
		x, _ = Moved(w, place(9, 8, -7))
		x, _ = Moved(x, place(-9, -8, 7))
		want(t, "a move and back", x, w)
	}
}

// P2.6: each edge of a panel is loose, on the frame, or shared.
func TestEdgesAreHeld(t *testing.T) {
	r := rand.New(rand.NewSource(11))
	for range 60 {
		w := randomWall(r)
		loose, _ := Loose(w)
		for i, p := range w.Panels {
			for _, edge := range plainEdges(p) {
				shared := slices.ContainsFunc(w.Panels, func(q Panel) bool {
					return slices.Contains(plainEdges(q), edge.back())
				})
				held := shared || slices.Contains(w.Frame, edge)
				want(t, "held, or loose", slices.Contains(loose, edge), !held)
				if shared {
					pairs, _ := Neighbours(w)
					want(t, "with a neighbour", slices.ContainsFunc(pairs, func(n [2]int) bool { return n[0] == i || n[1] == i }), true)
				}
			}
		}
	}
}

// P2.6: a place is seen from another one exactly if this is seen from it.
func TestSightIsMutual(t *testing.T) {
	r := rand.New(rand.NewSource(12))
	for range 100 {
		w := randomWall(r)
		for range 20 {
			a, b := randomPlace(r, 30), randomPlace(r, 30)
			x, _ := Blocks(w, a, b)
			y, _ := Blocks(w, b, a)
			want(t, "Blocks", x, y)
		}
		x, _ := Sees(w, "a", "b")
		y, _ := Sees(w, "b", "a")
		want(t, "Sees", x, y)
	}
}

// P2.6: a panel has no fewer holes if it grows.
func TestPanelsGrow(t *testing.T) {
	r := rand.New(rand.NewSource(13))
	for range 300 {
		f := randomFlat(r, 50)
		points := randomPoints(r, f.spread)
		small := f.panel(points)
		large := f.panel(append(points, [2]int{r.Intn(15) - 7, r.Intn(15) - 7}))
		fewer, e := Holes(small)
		want(t, "Holes", e, api.OK)
		more, e := Holes(large)
		want(t, "Holes", e, api.OK)
		for _, h := range fewer {
			want(t, "a hole stays", slices.Contains(more, h), true)
		}
	}
}
