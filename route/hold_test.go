package route

import (
	"math"
	"strings"
	"testing"

	"crux/api"
)

type wrongRoute struct {
	name string
	r    Route
	e    api.Errno
}

// far are coordinates that are too far away.
func far() []int {
	return []int{100001, -100001, math.MaxInt, math.MinInt}
}

// wrongRoutes are routes with the errors of CheckRoute, each one with some of the errors behind it, too.
func wrongRoutes() []wrongRoute {
	hold := func(n int, edit func(h *Hold)) Route {
		return example().with(func(r *Route) {
			edit(&r.Holds[n])
			r.Left = 9
		})
	}
	start := func(left, right int) Route {
		return example().with(func(r *Route) { r.Left, r.Right = left, right })
	}
	b := example().Holds[1]
	l := []wrongRoute{
		{"nothing", Route{}, api.ErrName},
		{"a name with a digit in front", Route{Name: "1"}, api.ErrName},
		{"a name that is too long", example().with(func(r *Route) { r.Name = strings.Repeat("r", 25) }), api.ErrName},
		{"no holds", Route{Name: "R", Left: 7}, api.ErrEmpty},
		{"65 holds", ladder(65), api.ErrMany},
		{"65 holds with errors", Route{Name: "R", Holds: make([]Hold, 65)}, api.ErrMany},
		{"a hold without a name", hold(2, func(h *Hold) { *h = Hold{"", place(200000, 0, 0), -1, false} }), api.ErrName},
		{"two holds without a name", hold(2, func(h *Hold) { h.Name = "" }).with(func(r *Route) { r.Holds[3].Name = "" }), api.ErrName},
		{"a hold with a name that is none", hold(0, func(h *Hold) { h.Name = "a b" }), api.ErrName},
		{"a name twice", hold(2, func(h *Hold) { *h = Hold{"b", place(200000, 0, 0), -1, false} }), api.ErrTwice},
		{"the name of the last hold twice", hold(3, func(h *Hold) { h.Name = "a" }), api.ErrTwice},
		{"a place twice", hold(2, func(h *Hold) { h.At, h.Value = b.At, -1 }), api.ErrTwice},
		{"a place twice, far apart in the list", hold(3, func(h *Hold) { h.At, h.Value = place(0, 0, 0), 1000 }), api.ErrTwice},
		{"a place ahead of a name", hold(1, func(h *Hold) { h.At.X = 100001 }).with(func(r *Route) { r.Holds[2].Name = "" }), api.ErrRange},
		{"a value below 0", hold(0, func(h *Hold) { h.Value = -1 }), api.ErrRange},
		{"a value below 0 behind another one", hold(2, func(h *Hold) { h.Value = -1 }), api.ErrRange},
		{"a value above 999", hold(3, func(h *Hold) { h.Value = 1000 }), api.ErrRange},
		{"the least value of all", hold(0, func(h *Hold) { h.Value = math.MinInt }), api.ErrRange},
		{"a value that descends", hold(2, func(h *Hold) { h.Value = 0 }), api.ErrOrder},
		{"a value that descends to the last hold", hold(2, func(h *Hold) { h.Value = 4 }), api.ErrOrder},
		{"a value ahead of a name", hold(1, func(h *Hold) { h.Value = 0 }).with(func(r *Route) { r.Holds[0].Value, r.Holds[3].Name = 1, "a" }), api.ErrOrder},
		{"Left behind the holds", start(4, 0), api.ErrUnknown},
		{"Right behind the holds", start(0, 4), api.ErrUnknown},
		{"Left below 0", start(-1, 0), api.ErrUnknown},
		{"Right below 0", start(3, -1), api.ErrUnknown},
		{"the last Left of all", start(math.MaxInt, math.MinInt), api.ErrUnknown},
	}
	for _, n := range far() {
		l = append(l,
			wrongRoute{"X", hold(1, func(h *Hold) { h.At.X, h.Value = n, -1 }), api.ErrRange},
			wrongRoute{"Y", hold(3, func(h *Hold) { h.At.Y = n }), api.ErrRange},
			wrongRoute{"Z", hold(0, func(h *Hold) { h.At.Z = n }), api.ErrRange},
			wrongRoute{"a place that is far away twice", hold(1, func(h *Hold) { h.At = place(n, n, n) }).with(func(r *Route) { r.Holds[2].At = place(n, n, n) }), api.ErrRange})
	}
	return l
}

// P3.1: CheckRoute has the errors in their order, and so have the other functions of routes, beside zero values.
func TestWrongRoutes(t *testing.T) {
	moves := []Move{{7, -1}}
	for _, row := range wrongRoutes() {
		r := row.r
		want(t, row.name, CheckRoute(r), row.e)
		calls := map[string]func() (any, any, api.Errno){
			"Moves":           func() (any, any, api.Errno) { x, e := Moves(r, 0, State{-1, 9}); return x, []Move(nil), e },
			"Held":            func() (any, any, api.Errno) { x, e := Held(r, 0); return x, []int(nil), e },
			"Way":             func() (any, any, api.Errno) { x, e := Way(r, 0); return x, []Move(nil), e },
			"CheckWay":        func() (any, any, api.Errno) { return 0, 0, CheckWay(r, 0, moves) },
			"Potentials":      func() (any, any, api.Errno) { x, e := Potentials(r, 0); return x, [][]int(nil), e },
			"CheckPotentials": func() (any, any, api.Errno) { x, e := CheckPotentials(r, 0, nil); return x, 0, e },
			"Need":            func() (any, any, api.Errno) { x, e := Need(r); return x, 0, e },
			"Attempt":         func() (any, any, api.Errno) { x, e := Attempt(r, 0, moves); return x, Climb{}, e },
			"Measure":         func() (any, any, api.Errno) { x, e := Measure(r); return x, Measures{}, e },
			"Moved":           func() (any, any, api.Errno) { x, e := Moved(r, place(200000, 0, 0)); return x, Route{}, e },
			"Mirrored":        func() (any, any, api.Errno) { x, e := Mirrored(r); return x, Route{}, e },
			"Compare with it": func() (any, any, api.Errno) {
				n, s, e := Compare(example(), r)
				return []any{n, s}, []any{0, ""}, e
			},
			"Compare it": func() (any, any, api.Errno) {
				n, s, e := Compare(r, Route{Name: "R", Holds: []Hold{{}}})
				return []any{n, s}, []any{0, ""}, e
			},
		}
		for name, call := range calls {
			got, zero, e := call()
			want(t, name+": "+row.name, e, row.e)
			want(t, name+": "+row.name, got, zero)
		}
	}
}

// P3.1: routes without an error.
func TestCheckRoute(t *testing.T) {
	for name, r := range map[string]Route{
		"the example": example(),
		"one hold":    line(0),
		"64 holds":    ladder(64),
		"a long name": example().with(func(r *Route) { r.Name = strings.Repeat("r", 24) }),
		"values": example().with(func(r *Route) {
			r.Holds[0].Value, r.Holds[1].Value, r.Holds[2].Value, r.Holds[3].Value = 0, 0, 999, 999
		}),
		"the corners":                           {"R", []Hold{{"a", place(100000, -100000, 100000), 0, true}, {"b", place(-100000, 100000, -100000), 0, true}}, 1, 0},
		"a start anywhere":                      example().with(func(r *Route) { r.Left, r.Right = 3, 1 }),
		"a hold that has the name of the route": example().with(func(r *Route) { r.Name = "a" }),
	} {
		want(t, name, CheckRoute(r), api.OK)
	}
}

// P3.4: Moved.
func TestMoved(t *testing.T) {
	r, e := Moved(example().with(func(r *Route) { r.Left, r.Right = 2, 1 }), place(1, -2, 30))
	want(t, "Moved", e, api.OK)
	want(t, "Moved", r, Route{"R", []Hold{
		{"a", place(1, -2, 30), 0, false},
		{"b", place(301, -2, 430), 1, false},
		{"c", place(1, -2, 930), 2, true},
		{"d", place(301, -2, 1330), 3, false},
	}, 2, 1})
	edges := Route{"R", []Hold{{"a", place(-10, 0, 5), 0, false}, {"b", place(0, 20, -7), 0, false}}, 0, 0}
	for _, row := range []struct {
		by api.Place
		e  api.Errno
	}{
		{place(0, 0, 0), api.OK},
		{place(-99990, 0, 0), api.OK},
		{place(-99991, 0, 0), api.ErrRange},
		{place(100000, 0, 0), api.OK},
		{place(0, 99980, 0), api.OK},
		{place(0, 99981, 0), api.ErrRange},
		{place(0, 0, 99995), api.OK},
		{place(0, 0, 99996), api.ErrRange},
		{place(0, 0, -99993), api.OK},
		{place(0, 0, -99994), api.ErrRange},
		{place(100001, 0, 0), api.ErrRange},
		{place(0, -100001, 0), api.ErrRange},
		{place(0, 0, math.MinInt), api.ErrRange},
		{place(math.MaxInt, math.MaxInt, math.MaxInt), api.ErrRange},
	} {
		r, e := Moved(edges, row.by)
		want(t, "Moved", e, row.e)
		if e != api.OK {
			want(t, "Moved", r, Route{})
		}
	}
	_, e = Moved(line(-5000), place(0, 0, 100001))
	want(t, "a vector that is too long, to a place that is not far away", e, api.ErrRange)
}

// P3.4: Mirrored.
func TestMirrored(t *testing.T) {
	r, e := Mirrored(example().with(func(r *Route) { r.Left, r.Holds[0].At = 1, place(-100000, 7, -8) }))
	want(t, "Mirrored", e, api.OK)
	want(t, "Mirrored", r, Route{"R", []Hold{
		{"a", place(100000, 7, -8), 0, false},
		{"b", place(-300, 0, 400), 1, false},
		{"c", place(0, 0, 900), 2, true},
		{"d", place(-300, 0, 1300), 3, false},
	}, 1, 0})
}

// The results share no memory with the arguments, and these are not changed.
func TestChangedMemory(t *testing.T) {
	for name, change := range map[string]func(r Route) (Route, api.Errno){
		"Moved":    func(r Route) (Route, api.Errno) { return Moved(r, place(0, 0, 0)) },
		"Mirrored": Mirrored,
	} {
		r := example()
		result, _ := change(r)
		want(t, name+": the argument stays", r, example())
		copied, _ := change(r)
		r.Holds[0].At.Y = 7
		want(t, name, result, copied)
		result.Holds[1].At.Y = 8
		want(t, name+": the argument stays", r.Holds[1], example().Holds[1])
	}
}
