package wall

import (
	"math"
	"testing"

	"crux/api"
)

// framedExample is the chapter's wall with an edge of the frame.
func framedExample() Wall {
	w := example()
	w.Frame = []Edge{{place(0, 0, 0), place(4000, 0, 0)}, {place(1, 2, 3), place(4, 5, 6)}}
	return w
}

// P2.5: Moved.
func TestMoved(t *testing.T) {
	w, e := Moved(framedExample(), place(1, -2, 30))
	want(t, "Moved", e, api.OK)
	want(t, "Moved", w, Wall{"w", []Panel{
		{at(1, -2, 30, 4001, -2, 30, 4001, -2, 3030, 1, -2, 3030), place(501, -2, 530), place(500, 0, 0), place(0, 0, 500)},
		{at(1, -2, 3030, 4001, -2, 3030, 4001, -3002, 7030, 1, -3002, 7030), place(501, -2, 3030), place(500, 0, 0), place(0, -300, 400)},
	}, []Edge{{place(1, -2, 30), place(4001, -2, 30)}, {place(2, 0, 33), place(5, 3, 36)}}, example().Holds})
	edge := Edge{place(0, 0, 0), place(-5, 7000, 1)}
	for _, row := range []struct {
		name string
		w    Wall
		by   api.Place
		e    api.Errno
	}{
		{"as far as it goes", example(), place(96000, 100000, 93000), api.OK},
		{"a corner", example(), place(96001, 0, 0), api.ErrRange},
		{"the other panel", example(), place(0, 0, 93001), api.ErrRange},
		{"below 0", example(), place(-100000, -97000, -100000), api.OK},
		{"below 0, too far", example(), place(0, -97001, 0), api.ErrRange},
		{"Origin", example().with(func(w *Wall) { w.Panels[0].Origin.X, w.Holds = -10, nil }), place(-99991, 0, 0), api.ErrRange},
		{"Origin, just not", example().with(func(w *Wall) { w.Panels[0].Origin.X, w.Holds = -10, nil }), place(-99990, 0, 0), api.OK},
		{"U and V stay", example().with(func(w *Wall) { w.Panels[0].U, w.Holds = place(100000, 0, 0), nil }), place(1000, 0, 0), api.OK},
		{"the frame", example().with(func(w *Wall) { w.Frame = []Edge{edge} }), place(0, 93001, 0), api.ErrRange},
		{"the frame, its other end", example().with(func(w *Wall) { w.Frame = []Edge{edge.back()} }), place(0, 93001, 0), api.ErrRange},
		{"the frame, just not", example().with(func(w *Wall) { w.Frame = []Edge{edge} }), place(0, 93000, 0), api.OK},
		{"a vector that is none", example(), place(0, 0, -100001), api.ErrRange},
		{"a vector that is none at all", example(), place(math.MinInt, math.MaxInt, 0), api.ErrRange},
	} {
		w, e := Moved(row.w, row.by)
		want(t, row.name, e, row.e)
		if e != api.OK {
			want(t, row.name, w, Wall{})
		}
	}
}

// P2.5: Turned.
func TestTurned(t *testing.T) {
	w, e := Turned(framedExample(), 1)
	want(t, "Turned", e, api.OK)
	once := Wall{"w", []Panel{
		{at(0, 0, 0, 0, 4000, 0, 0, 4000, 3000, 0, 0, 3000), place(0, 500, 500), place(0, 500, 0), place(0, 0, 500)},
		{at(0, 0, 3000, 0, 4000, 3000, 3000, 4000, 7000, 3000, 0, 7000), place(0, 500, 3000), place(0, 500, 0), place(300, 0, 400)},
	}, []Edge{{place(0, 0, 0), place(0, 4000, 0)}, {place(-2, 1, 3), place(-5, 4, 6)}}, example().Holds}
	want(t, "Turned", w, once)
	twice, _ := Turned(framedExample(), 2)
	want(t, "two quarters", twice.Frame[1], Edge{place(-1, -2, 3), place(-4, -5, 6)})
	again, _ := Turned(once, 1)
	want(t, "one quarter and another one", again, twice)
	for quarters, same := range map[int]int{0: 0, 4: 0, 5: 1, -3: 1, -1: 3, -2: 2, 400002: 2, math.MaxInt: 3, math.MinInt: 0, math.MinInt + 1: 1} {
		x, e := Turned(framedExample(), quarters)
		y, _ := Turned(framedExample(), same)
		want(t, "any quarters", []any{x, e}, []any{y, api.OK})
	}
	x, _ := Turned(framedExample(), 0)
	want(t, "no quarter", x, framedExample())
}

// P2.5: Mirrored.
func TestMirrored(t *testing.T) {
	w, e := Mirrored(framedExample())
	want(t, "Mirrored", e, api.OK)
	want(t, "Mirrored", w, Wall{"w", []Panel{
		{at(0, 0, 0, 0, 0, 3000, -4000, 0, 3000, -4000, 0, 0), place(-500, 0, 500), place(-500, 0, 0), place(0, 0, 500)},
		{at(0, 0, 3000, 0, -3000, 7000, -4000, -3000, 7000, -4000, 0, 3000), place(-500, 0, 3000), place(-500, 0, 0), place(0, -300, 400)},
	}, []Edge{{place(-4000, 0, 0), place(0, 0, 0)}, {place(-4, 5, 6), place(-1, 2, 3)}}, example().Holds})
	triangle, _ := Mirrored(Wall{"w", apart(1), nil, nil})
	want(t, "a triangle", triangle.Panels[0].Corners, at(0, 0, 0, 0, 10, 0, -10, 0, 0))
}

// The results share no memory with the arguments.
func TestChangedMemory(t *testing.T) {
	for name, change := range map[string]func(w Wall) (Wall, api.Errno){
		"Moved":    func(w Wall) (Wall, api.Errno) { return Moved(w, api.Place{}) },
		"Turned":   func(w Wall) (Wall, api.Errno) { return Turned(w, 4) },
		"Mirrored": Mirrored,
	} {
		w := framedExample()
		result, _ := change(w)
		copied, _ := change(w)
		w.Panels[0].Corners[0].X = 7
		w.Panels[1].Origin.X = 7
		w.Frame[0].A.X = 7
		w.Holds[0].Name = "z"
		want(t, name, result, copied)
		result.Panels[0].Corners[0].Y = 8
		result.Panels[0].U.Y = 8
		result.Frame[0].B.Y = 8
		result.Holds[0].I = 8
		want(t, name+": the argument stays", []any{w.Panels[0].Corners[0].Y, w.Panels[0].U.Y, w.Frame[0].B.Y, w.Holds[0].I}, []any{0, 0, 0, 1})
	}
}
