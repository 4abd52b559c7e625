package wall

import (
	"math/big"
	"math/rand"
	"reflect"
	"testing"

	"crux/api"
	"crux/space"
)

// want reports a result that is not the wanted one. Nil and empty lists are equal.
func want(t *testing.T, what string, got, wanted any) {
	t.Helper()
	x, y := reflect.ValueOf(got), reflect.ValueOf(wanted)
	if x.Kind() == reflect.Slice && x.Type() == y.Type() && x.Len() == 0 && y.Len() == 0 {
		return
	}
	if !reflect.DeepEqual(got, wanted) {
		t.Errorf("%s: got %v, want %v", what, got, wanted)
	}
}

func place(x, y, z int) api.Place {
	return api.Place{X: x, Y: y, Z: z}
}

// at returns the places with coordinates, three for each one.
func at(l ...int) []api.Place {
	var places []api.Place
	for i := 0; i < len(l); i += 3 {
		places = append(places, place(l[i], l[i+1], l[i+2]))
	}
	return places
}

// standing is the panel 0 of the chapter's examples.
func standing() Panel {
	return Panel{at(0, 0, 0, 4000, 0, 0, 4000, 0, 3000, 0, 0, 3000), place(500, 0, 500), place(500, 0, 0), place(0, 0, 500)}
}

// leaning is the panel 1 of the chapter's examples.
func leaning() Panel {
	return Panel{at(0, 0, 3000, 4000, 0, 3000, 4000, -3000, 7000, 0, -3000, 7000), place(500, 0, 3000), place(500, 0, 0), place(0, -300, 400)}
}

// square is the panel of the chapter's example 6.
func square() Panel {
	return Panel{at(0, 0, 0, 1000, 0, 0, 1000, 0, 1000, 0, 0, 1000), place(0, 0, 0), place(500, 0, 0), place(0, 0, 500)}
}

// example is the wall of the chapter's examples.
func example() Wall {
	return Wall{"w", []Panel{standing(), leaning()}, nil, []Hold{{"a", 0, 1, 1}, {"b", 0, 1, 5}, {"c", 1, 1, 5}}}
}

// floor3 is a triangle that lies, seen from above.
func floor3() Panel {
	return Panel{at(0, 0, 0, 10, 0, 0, 0, 10, 0), place(0, 0, 0), place(1, 0, 0), place(0, 1, 0)}
}

// with returns a panel that has been edited.
func (p Panel) with(edit func(p *Panel)) Panel {
	p.Corners = append([]api.Place{}, p.Corners...)
	edit(&p)
	return p
}

// with returns a wall that has been edited.
func (w Wall) with(edit func(w *Wall)) Wall {
	w.Panels = append([]Panel{}, w.Panels...)
	w.Frame = append([]Edge{}, w.Frame...)
	w.Holds = append([]Hold{}, w.Holds...)
	edit(&w)
	return w
}

// slices3 returns the coordinates of a place as large integers.
func slices3(a api.Place) [3]*big.Rat {
	return [3]*big.Rat{big.NewRat(int64(a.X), 1), big.NewRat(int64(a.Y), 1), big.NewRat(int64(a.Z), 1)}
}

func bigMinus(a, b [3]*big.Rat) [3]*big.Rat {
	var d [3]*big.Rat
	for i := range d {
		d[i] = new(big.Rat).Sub(a[i], b[i])
	}
	return d
}

func bigDot(a, b [3]*big.Rat) *big.Rat {
	sum := new(big.Rat)
	for i := range a {
		sum.Add(sum, new(big.Rat).Mul(a[i], b[i]))
	}
	return sum
}

func bigCross(a, b [3]*big.Rat) [3]*big.Rat {
	part := func(i, j int) *big.Rat {
		return new(big.Rat).Sub(new(big.Rat).Mul(a[i], b[j]), new(big.Rat).Mul(a[j], b[i]))
	}
	return [3]*big.Rat{part(1, 2), part(2, 0), part(0, 1)}
}

// bigVector returns the vector of a panel.
func bigVector(p Panel) [3]*big.Rat {
	a, b, c := slices3(p.Corners[0]), slices3(p.Corners[1]), slices3(p.Corners[2])
	return bigCross(bigMinus(b, a), bigMinus(c, b))
}

// bigOn is On, written as the chapter has it, for a point of the plane.
func bigOn(p Panel, at [3]*big.Rat) int {
	on := 1
	for i, a := range p.Corners {
		from, to := slices3(a), slices3(p.Corners[(i+1)%len(p.Corners)])
		product := bigDot(bigCross(bigMinus(to, from), bigMinus(at, from)), bigVector(p))
		on = min(on, product.Sign())
	}
	return on
}

// bigHeight is above 0 in front of the plane of a panel, and below 0 behind it.
func bigHeight(p Panel, at [3]*big.Rat) *big.Rat {
	return bigDot(bigVector(p), bigMinus(at, slices3(p.Corners[0])))
}

// bigStands reports whether a panel stands between two places.
func bigStands(p Panel, a, b api.Place) bool {
	x, y := bigHeight(p, slices3(a)), bigHeight(p, slices3(b))
	if x.Sign()*y.Sign() >= 0 {
		return false
	}
	part := new(big.Rat).Quo(x, new(big.Rat).Sub(x, y))
	point := slices3(a)
	for i, d := range bigMinus(slices3(b), slices3(a)) {
		point[i] = new(big.Rat).Add(point[i], new(big.Rat).Mul(part, d))
	}
	return bigOn(p, point) >= 0
}

// flat is a plane in which random panels are drawn.
type flat struct {
	zero   api.Place
	u, v   api.Place
	spread int // of the coordinates along u and v
}

func (f flat) at(i, j int) api.Place {
	return place(f.zero.X+i*f.u.X+j*f.v.X, f.zero.Y+i*f.u.Y+j*f.v.Y, f.zero.Z+i*f.u.Z+j*f.v.Z)
}

func randomPlace(r *rand.Rand, size int) api.Place {
	n := func() int { return r.Intn(2*size+1) - size }
	return place(n(), n(), n())
}

// randomFlat returns a plane for panels whose size is up to about 12 times the size of its vectors.
func randomFlat(r *rand.Rand, size int) flat {
	for {
		f := flat{randomPlace(r, size), randomPlace(r, size), randomPlace(r, size), 3 + r.Intn(4)}
		if space.Of(f.u).Cross(space.Of(f.v)) != (space.Vector{}) {
			return f
		}
	}
}

// hull returns the corners of the convex hull of points, counterclockwise, without three on a line (gift wrapping).
func hull(points [][2]int) [][2]int {
	turn := func(a, b, c [2]int) int {
		return (b[0]-a[0])*(c[1]-a[1]) - (b[1]-a[1])*(c[0]-a[0])
	}
	first := points[0]
	for _, p := range points {
		if p[0] < first[0] || p[0] == first[0] && p[1] < first[1] {
			first = p
		}
	}
	corners := [][2]int{first}
	for {
		last := corners[len(corners)-1]
		next := last
		for _, p := range points {
			far := func(q [2]int) int { return (q[0]-last[0])*(q[0]-last[0]) + (q[1]-last[1])*(q[1]-last[1]) }
			if side := turn(last, next, p); p != last && (next == last || side < 0 || side == 0 && far(p) > far(next)) {
				next = p
			}
		}
		if next == first || next == last {
			return corners
		}
		corners = append(corners, next)
	}
}

// randomPoints returns points whose hull has from 3 to 16 corners.
func randomPoints(r *rand.Rand, spread int) [][2]int {
	for {
		var l [][2]int
		for range 3 + r.Intn(12) {
			l = append(l, [2]int{r.Intn(2*spread+1) - spread, r.Intn(2*spread+1) - spread})
		}
		if len(hull(l)) >= 3 {
			return l
		}
	}
}

// panel returns the hull of points in a plane, with a grid of its vectors.
func (f flat) panel(points [][2]int) Panel {
	p := Panel{Origin: f.at(1, 0), U: f.u, V: f.v}
	for _, c := range hull(points) {
		p.Corners = append(p.Corners, f.at(c[0], c[1]))
	}
	return p
}

func randomPanel(r *rand.Rand, size int) Panel {
	f := randomFlat(r, size)
	return f.panel(randomPoints(r, f.spread))
}

// randomWall returns a strip of panels that share edges, other panels, a frame, and holds in the strip.
func randomWall(r *rand.Rand) Wall {
	for {
		w := Wall{Name: "strip"}
		a, side := randomPlace(r, 20), randomPlace(r, 5)
		for range 1 + r.Intn(4) {
			way := randomPlace(r, 5)
			f := flat{a, side, way, 0}
			w.Panels = append(w.Panels, Panel{[]api.Place{f.at(0, 0), f.at(4, 0), f.at(4, 4), f.at(0, 4)}, f.at(0, 0), side, way})
			a = f.at(0, 4)
		}
		strip := len(w.Panels)
		for range r.Intn(4) {
			w.Panels = append(w.Panels, randomPanel(r, 6))
		}
		for _, p := range w.Panels {
			if i := r.Intn(len(p.Corners)); r.Intn(2) == 0 {
				w.Frame = append(w.Frame, Edge{p.Corners[i], p.Corners[(i+1)%len(p.Corners)]})
			}
		}
		for _, name := range []string{"a", "b", "c", "d"} {
			w.Holds = append(w.Holds, Hold{name, r.Intn(strip), r.Intn(5), r.Intn(5)})
		}
		if CheckWall(w) == api.OK {
			return w
		}
	}
}
