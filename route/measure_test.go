package route

import (
	"math/big"
	"math/rand"
	"strconv"
	"testing"

	"crux/api"
)

// span returns a span of two integers.
func span(low, high int) api.Span {
	return api.Span{Low: api.Rat(strconv.Itoa(low)), High: api.Rat(strconv.Itoa(high))}
}

// corners is a route over the greatest distance.
func corners() Route {
	return Route{"corners", []Hold{
		{"a", place(100000, 100000, 100000), 0, false},
		{"b", place(-100000, -100000, -100000), 0, false},
	}, 0, 0}
}

// P3.2: Need.
func TestNeed(t *testing.T) {
	for _, row := range []struct {
		name string
		r    Route
		need int
	}{
		{"of the chapter", example(), 584},
		{"one hold", line(5), 1},
		{"both hands at the top", example().with(func(r *Route) { r.Left, r.Right = 3, 3 }), 1},
		{"one hand at the top", example().with(func(r *Route) { r.Left, r.Right = 3, 2 }), 500},
		{"a start that is wide", example().with(func(r *Route) { r.Left, r.Right = 0, 3 }), 1335},
		{"a start that is wider than all steps", line(0, 90, 100, 110).with(func(r *Route) { r.Right = 1 }), 90},
		{"from the right hand", line(0, 90, 100, 181, 190).with(func(r *Route) { r.Left, r.Right = 1, 2 }), 81},
		{"a whole root", line(0, 9, 16), 9},
		{"neighbours that are 1 apart", line(0, 1, 2), 1},
		{"holds that do not ascend", line(0, 40, 21, 60), 21},
		{"a hold that need not be reached", line(0, 1000, 10), 10},
		{"a hold on the way that has a greater number", line(0, 20, 10, 20+9), 10},
		{"the greatest distance", corners(), 346411},
	} {
		need, e := Need(row.r)
		want(t, row.name, []any{need, e}, []any{row.need, api.OK})
	}
}

// P3.2: Need at random routes is the least reach for which there is a way.
func TestNeedAtRandom(t *testing.T) {
	r := rand.New(rand.NewSource(7))
	for _, size := range []int{3, 10, 1000, 100000} {
		for range 150 {
			route := randomRoute(r, 1+r.Intn(8), size)
			start := State{route.Left, route.Right}
			need, e := Need(route)
			want(t, "Need", e, api.OK)
			want(t, "the start", possible(route, need, start), true)
			want(t, "a way", slowPotentials(route, need)[start.Left][start.Right] >= 0, true)
			if need == 1 {
				continue
			}
			less := possible(route, need-1, start) && slowPotentials(route, need-1)[start.Left][start.Right] >= 0
			want(t, "a way with less", less, false)
		}
	}
}

// P3.4: Measure.
func TestMeasure(t *testing.T) {
	for _, row := range []struct {
		name string
		r    Route
		m    Measures
	}{
		{"of the chapter", example(), Measures{584, 4, 340000, span(1583, 1584), 4}},
		{"one hold", line(5), Measures{1, 0, 0, span(0, 0), 1}},
		{"whole lengths", line(0, 10, 30, 35), Measures{20, 4, 400, span(35, 35), 4}},
		{"both hands at the top", example().with(func(r *Route) { r.Left, r.Right = 3, 3 }), Measures{1, 0, 340000, span(1583, 1584), 4}},
		{"a step that is not the last one", line(0, 100, 110), Measures{100, 3, 10000, span(110, 110), 3}},
		{"a greater reach needs fewer moves", line(0, 10, 20, 30).with(func(r *Route) { r.Right = 3 }), Measures{30, 1, 100, span(30, 30), 4}},
		{"lengths beyond MaxPlace", corners(), Measures{346411, 2, 120000000000, span(346410, 346411), 2}},
	} {
		m, e := Measure(row.r)
		want(t, row.name, []any{m, e}, []any{row.m, api.OK})
	}
}

// P3.4: Measure at random routes.
func TestMeasureAtRandom(t *testing.T) {
	r := rand.New(rand.NewSource(8))
	for _, size := range []int{2, 5, 30, 100000} {
		for range 100 {
			n := 1 + r.Intn(7)
			route := randomRoute(r, n, size)
			m, e := Measure(route)
			want(t, "Measure", e, api.OK)
			need, _ := Need(route)
			low, high, step := 0, 0, 0
			for i := range n - 1 {
				a, b := route.Holds[i].At, route.Holds[i+1].At
				square := int64((a.X-b.X)*(a.X-b.X) + (a.Y-b.Y)*(a.Y-b.Y) + (a.Z-b.Z)*(a.Z-b.Z))
				root := new(big.Int).Sqrt(big.NewInt(square)).Int64()
				low, high = low+int(root), high+int(root)
				if root*root != square {
					high++
				}
				step = max(step, int(square))
			}
			moves := slowPotentials(route, need)[route.Left][route.Right]
			want(t, "Measure", m, Measures{need, moves, step, span(low, high), n})
		}
	}
}

// P3.4: Compare.
func TestCompare(t *testing.T) {
	done := func(r Route) Route { // with both hands at the top
		r.Left, r.Right = len(r.Holds)-1, len(r.Holds)-1
		return r
	}
	end := func(at api.Place) Route {
		return done(line(0, 100, 0).with(func(r *Route) { r.Holds[2].At = at }))
	}
	for _, row := range []struct {
		name    string
		a, b    Route
		n       int
		measure string
	}{
		{"of the chapter", example(), example().with(func(r *Route) { r.Holds[3].At = place(100, 0, 1476) }), -1, "need"},
		{"the same route", example(), example(), 0, ""},
		{"routes with other names and values", example(), example().with(func(r *Route) { r.Name, r.Holds[0].Name, r.Holds[3].Value, r.Holds[0].Zone = "S", "x", 9, true }), 0, ""},
		{"need, ahead of moves, steps, lengths and holds", line(0, 9, 18, 27, 100, 36), line(0, 10), -1, "need"},
		{"moves", line(0, 10), line(0, 10, 20), -1, "moves"},
		{"moves, ahead of steps, lengths and holds", line(0, 100, -100, 50, 10), line(0, 10, 20), -1, "moves"},
		{"step", line(0, 50, 10, 20), line(0, 51, 10, 20), -1, "step"},
		{"step, ahead of lengths and holds", line(0, 50, 20, 45, 10), line(0, 51, 10), -1, "step"},
		{"length", line(0, 10, 60, 50, 20), line(0, 10, 60, 65, 20), -1, "length"},
		{"length, ahead of holds", done(line(0, 50, 40, 30, 10)), done(line(0, 50, 1, 10)), -1, "length"},
		{"as long", line(0, 10, 60, 30, 20), line(0, 10, 60, 35, 20), 0, ""},
		{"lengths that touch", end(place(0, 1, 101)), end(place(0, 0, 102)), 0, ""},
		{"lengths that overlap", end(place(0, 1, 101)), end(place(1, 1, 101)), 0, ""},
		{"lengths that do not touch", end(place(0, 1, 101)), end(place(0, 0, 103)), -1, "length"},
		{"spans that do not touch", end(place(0, 1, 101)), end(place(0, 3, 101)), -1, "length"},
		{"holds", line(0, 10, 40, 70, 20), line(0, 10, 40, 55, 70, 20), -1, "holds"},
	} {
		n, measure, e := Compare(row.a, row.b)
		want(t, row.name, []any{n, measure, e}, []any{row.n, row.measure, api.OK})
		n, measure, e = Compare(row.b, row.a)
		want(t, row.name+", the other way round", []any{n, measure, e}, []any{-row.n, row.measure, api.OK})
	}
}

// P3.4: Compare at random routes follows their measures.
func TestCompareAtRandom(t *testing.T) {
	r := rand.New(rand.NewSource(9))
	names := map[string]int{}
	for range 3000 {
		a := randomRoute(r, 1+r.Intn(4), 1)
		b := randomRoute(r, 1+r.Intn(4), 1)
		x, _ := Measure(a)
		y, _ := Measure(b)
		n, name, e := Compare(a, b)
		want(t, "Compare", e, api.OK)
		lowX, _ := strconv.Atoi(string(x.Length.Low))
		highX, _ := strconv.Atoi(string(x.Length.High))
		lowY, _ := strconv.Atoi(string(y.Length.Low))
		highY, _ := strconv.Atoi(string(y.Length.High))
		wanted, number := "", 0
		switch {
		case x.Need != y.Need:
			wanted, number = "need", x.Need-y.Need
		case x.Moves != y.Moves:
			wanted, number = "moves", x.Moves-y.Moves
		case x.Step != y.Step:
			wanted, number = "step", x.Step-y.Step
		case highX < lowY || highY < lowX:
			wanted, number = "length", lowX-lowY
		case x.Holds != y.Holds:
			wanted, number = "holds", x.Holds-y.Holds
		}
		names[wanted]++
		want(t, "Compare", []any{n, name}, []any{min(1, max(-1, number)), wanted})
	}
	for _, name := range []string{"", "need", "moves", "step", "length", "holds"} {
		want(t, "some decided by "+name, names[name] > 0, true)
	}
}
