package route

import (
	"math"
	"math/rand"
	"slices"
	"strings"
	"testing"

	"crux/api"
)

// The settings A and B of the chapter's example.
func settingA() []Bolt {
	return []Bolt{{place(0, 0, 0), "jug"}, {place(100, 0, 0), "crimp"}}
}

func settingB() []Bolt {
	return []Bolt{{place(0, 50, 0), "jug"}, {place(100, 0, 0), "sloper"}}
}

// row returns n bolts with a shape, 10 apart.
func row(n int, shape string) []Bolt {
	var l []Bolt
	for i := range n {
		l = append(l, Bolt{place(10*i, 0, 0), shape})
	}
	return l
}

type wrongSetting struct {
	name string
	l    []Bolt
	e    api.Errno
}

// wrongSettings are settings with the errors of CheckSetting, each one with some of the errors behind it, too.
func wrongSettings() []wrongSetting {
	a := Bolt{place(1, 2, 3), "jug"}
	l := []wrongSetting{
		{"65 bolts", row(65, "jug"), api.ErrMany},
		{"65 bolts with errors", make([]Bolt, 65), api.ErrMany},
		{"a place twice", []Bolt{a, {place(1, 2, 3), ""}, {place(200000, 0, 0), ""}}, api.ErrTwice},
		{"a place twice, far apart in the list", append(row(9, "jug"), Bolt{place(30, 0, 0), "crimp"}), api.ErrTwice},
		{"no shape", []Bolt{a, {place(0, 0, 0), ""}, a}, api.ErrName},
		{"a shape that is no name", []Bolt{{place(0, 0, 0), "a jug"}}, api.ErrName},
		{"a shape that is too long", []Bolt{{place(0, 0, 0), strings.Repeat("j", 25)}}, api.ErrName},
	}
	for _, n := range far() {
		l = append(l,
			wrongSetting{"X", []Bolt{a, {place(n, 0, 0), ""}, a}, api.ErrRange},
			wrongSetting{"Y", []Bolt{{place(0, n, 0), "jug"}}, api.ErrRange},
			wrongSetting{"Z", []Bolt{{place(0, 0, n), "jug"}, {place(0, 0, n), "jug"}}, api.ErrRange},
			wrongSetting{"a shape ahead of a place", []Bolt{{place(0, 0, 0), ""}, {place(n, n, n), "jug"}}, api.ErrName})
	}
	return l
}

// P3.5, P3.6: CheckSetting has the errors in their order, and so have the other functions of settings, beside zero values.
func TestWrongSettings(t *testing.T) {
	noStep, noPrices := []Step{{-9, 9}}, []int{math.MaxInt}
	calls := map[string]func(a, b []Bolt, store int) (any, any, api.Errno){
		"Cost": func(a, b []Bolt, store int) (any, any, api.Errno) { x, e := Cost(a, b, store); return x, 0, e },
		"Plan": func(a, b []Bolt, store int) (any, any, api.Errno) {
			x, e := Plan(a, b, store)
			return x, []Step(nil), e
		},
		"Prices": func(a, b []Bolt, store int) (any, any, api.Errno) {
			p, q, e := Prices(a, b, store)
			return len(p) + len(q), 0, e
		},
		"CheckPlan": func(a, b []Bolt, store int) (any, any, api.Errno) {
			x, e := CheckPlan(a, b, store, noStep)
			return x, 0, e
		},
		"CheckPrices": func(a, b []Bolt, store int) (any, any, api.Errno) {
			x, e := CheckPrices(a, b, store, noPrices, noPrices)
			return x, 0, e
		},
	}
	for name, call := range calls {
		for _, row := range wrongSettings() {
			want(t, row.name, CheckSetting(row.l), row.e)
			got, zero, e := call(row.l, make([]Bolt, 65), -1)
			want(t, name+": "+row.name, []any{got, e}, []any{zero, row.e})
			got, zero, e = call(settingA(), row.l, -1)
			want(t, name+", in the second place: "+row.name, []any{got, e}, []any{zero, row.e})
		}
		for _, store := range []int{-1, 1000001, math.MaxInt, math.MinInt} {
			got, zero, e := call(settingA(), settingB(), store)
			want(t, name+": a store", []any{got, e}, []any{zero, api.ErrRange})
		}
	}
}

// P3.5: settings without an error.
func TestCheckSetting(t *testing.T) {
	for name, l := range map[string][]Bolt{
		"none":                 nil,
		"of the chapter":       settingA(),
		"64 bolts":             row(64, "jug"),
		"the corners":          {{place(100000, -100000, 100000), "a"}, {place(-100000, 100000, -100000), "a"}},
		"a long name":          {{place(0, 0, 0), strings.Repeat("j", 24)}},
		"places that are near": {{place(0, 0, 0), "a"}, {place(1, 0, 0), "a"}, {place(0, 1, 0), "a"}, {place(0, 0, 1), "a"}},
	} {
		want(t, name, CheckSetting(l), api.OK)
	}
}

// slowCost returns the least cost of a change, the bolts of a being taken one by one.
func slowCost(a, b []Bolt, store int) int {
	if len(a) == 0 {
		return store * len(b)
	}
	least := store + slowCost(a[1:], b, store)
	for j, to := range b {
		if to.Shape == a[0].Shape {
			least = min(least, slowDistance(a[0], to)+slowCost(a[1:], slices.Delete(slices.Clone(b), j, j+1), store))
		}
	}
	return least
}

// slowDistance returns what a step with both bolts costs, written as the chapter has it.
func slowDistance(a, b Bolt) int {
	sum := 0.0
	for _, d := range []int{a.At.X - b.At.X, a.At.Y - b.At.Y, a.At.Z - b.At.Z} {
		sum += math.Abs(float64(d))
	}
	return int(sum)
}

// changes are settings, and what the least change between them costs.
func changes() []struct {
	name  string
	a, b  []Bolt
	store int
	cost  int
} {
	jug := func(x, y, z int) Bolt { return Bolt{place(x, y, z), "jug"} }
	return []struct {
		name  string
		a, b  []Bolt
		store int
		cost  int
	}{
		{"of the chapter", settingA(), settingB(), 200, 450},
		{"with a cheap store", settingA(), settingB(), 20, 80},
		{"with the store for nothing", settingA(), settingB(), 0, 0},
		{"with the dearest store", settingA(), settingB(), 1000000, 2000050},
		{"where both cost the same", settingA(), settingB(), 25, 100},
		{"nothing", nil, nil, 7, 0},
		{"to nothing", settingA(), nil, 7, 14},
		{"from nothing", nil, row(64, "jug"), 7, 448},
		{"to itself", settingA(), settingA(), 7, 0},
		{"over the greatest distance", []Bolt{jug(100000, 100000, 100000)}, []Bolt{jug(-100000, -100000, -100000)}, 1000000, 600000},
		{"one coordinate up, one down", []Bolt{jug(1, 20, 300)}, []Bolt{jug(2, 10, 400)}, 1000, 111},
		{"two that are exchanged", []Bolt{jug(0, 0, 0), {place(9, 0, 0), "crimp"}}, []Bolt{{place(0, 0, 0), "crimp"}, jug(9, 0, 0)}, 100, 18},
		{"a bolt that gives its place to another one", []Bolt{jug(0, 0, 0), jug(10, 0, 0)}, []Bolt{jug(10, 0, 0), jug(25, 0, 0)}, 100, 25},
		{"the nearest one is not the best one", []Bolt{jug(0, 0, 0), jug(10, 0, 0)}, []Bolt{jug(9, 0, 0), jug(0, 0, 30)}, 100, 31},
		{"more bolts than before", []Bolt{jug(5, 0, 0)}, []Bolt{jug(0, 0, 0), jug(7, 0, 0), jug(9, 0, 0)}, 50, 102},
		{"fewer bolts than before", []Bolt{jug(0, 0, 0), jug(7, 0, 0), jug(9, 0, 0)}, []Bolt{jug(5, 0, 0)}, 50, 102},
		{"all in a row moved by one", row(64, "jug"), row(65, "jug")[1:], 1000, 640},
		{"all in a row moved by one, or one of them over the store", row(64, "jug"), row(65, "jug")[1:], 200, 400},
		{"full settings of different shapes", row(64, "jug"), row(64, "crimp"), 1000000, 128000000},
	}
}

// P3.5, P3.6: Cost, and plans and prices that prove it.
func TestChanges(t *testing.T) {
	for _, row := range changes() {
		cost, e := Cost(row.a, row.b, row.store)
		want(t, row.name, []any{cost, e}, []any{row.cost, api.OK})
		prove(t, row.name, row.a, row.b, row.store)
	}
}

// prove looks at the plan and the prices of a change.
func prove(t *testing.T, name string, a, b []Bolt, store int) {
	t.Helper()
	cost, _ := Cost(a, b, store)
	plan, e := Plan(a, b, store)
	want(t, name+": Plan", e, api.OK)
	total := 0
	var from, to []int
	for _, s := range plan {
		if s.From >= 0 && s.To >= 0 {
			want(t, name+": shapes", a[s.From].Shape, b[s.To].Shape)
			total += slowDistance(a[s.From], b[s.To])
		} else {
			total += store
		}
		if s.From != -1 {
			from = append(from, s.From)
		}
		if s.To != -1 {
			to = append(to, s.To)
		}
	}
	slices.Sort(from)
	slices.Sort(to)
	want(t, name+": the bolts of the first setting", from, numbers(len(a)))
	want(t, name+": the bolts of the second setting", to, numbers(len(b)))
	want(t, name+": Plan", total, cost)
	checked, e := CheckPlan(a, b, store, plan)
	want(t, name+": CheckPlan", []any{checked, e}, []any{cost, api.OK})
	p, q, e := Prices(a, b, store)
	want(t, name+": Prices", e, api.OK)
	want(t, name+": Prices", slowProof(a, b, store, p, q), true)
	checked, e = CheckPrices(a, b, store, p, q)
	want(t, name+": CheckPrices", []any{checked, e}, []any{cost, api.OK})
}

// numbers returns the numbers from 0 up to n - 1.
func numbers(n int) []int {
	var l []int
	for i := range n {
		l = append(l, i)
	}
	return l
}

// slowProof reports whether prices prove their sum, written as the chapter has it.
func slowProof(a, b []Bolt, store int, p, q []int) bool {
	if len(p) != len(a) || len(q) != len(b) {
		return false
	}
	ok := true
	for i := range a {
		ok = ok && p[i] <= store
		for j := range b {
			ok = ok && (a[i].Shape != b[j].Shape || p[i]+q[j] <= slowDistance(a[i], b[j]))
		}
	}
	for j := range b {
		ok = ok && q[j] <= store
	}
	return ok
}

// P3.5, P3.6: Cost, Plan and Prices for random settings.
func TestChangesAtRandom(t *testing.T) {
	r := rand.New(rand.NewSource(10))
	for range 1500 {
		size, shapes := 1+r.Intn(20), 1+r.Intn(3)
		a := randomSetting(r, r.Intn(6), size, shapes)
		b := randomSetting(r, r.Intn(6), size, shapes)
		store := r.Intn(40)
		cost, e := Cost(a, b, store)
		want(t, "Cost", []any{cost, e}, []any{slowCost(a, b, store), api.OK})
		prove(t, "at random", a, b, store)
	}
	for range 60 {
		size, shapes := []int{5, 1000, 100000}[r.Intn(3)], 1+r.Intn(5)
		a := randomSetting(r, 40+r.Intn(25), size, shapes)
		b := randomSetting(r, 40+r.Intn(25), size, shapes)
		prove(t, "large, at random", a, b, []int{0, 3, 900, 90000, 1000000}[r.Intn(5)])
	}
}

// P3.5: CheckPlan.
func TestCheckPlan(t *testing.T) {
	good := []Step{{0, 0}, {1, -1}, {-1, 1}}
	apart := []Step{{0, -1}, {1, -1}, {-1, 0}, {-1, 1}}
	for _, row := range []struct {
		name  string
		store int
		l     []Step
		cost  int
		e     api.Errno
	}{
		{"of the chapter", 200, good, 450, api.OK},
		{"over the store", 200, apart, 800, api.OK},
		{"over a cheap store", 20, apart, 80, api.OK},
		{"in another order", 200, []Step{{-1, 1}, {0, 0}, {1, -1}}, 450, api.OK},
		{"129 steps", 200, slices.Repeat([]Step{{-9, 9}}, 129), 0, api.ErrMany},
		{"129 good steps", 200, slices.Repeat(good, 43), 0, api.ErrMany},
		{"128 steps", 200, slices.Repeat([]Step{{0, 0}}, 128), 0, api.ErrTwice},
		{"From is -2", 200, []Step{{-2, -1}}, 0, api.ErrUnknown},
		{"From is 2", 200, []Step{{2, 1}}, 0, api.ErrUnknown},
		{"To is -2", 200, []Step{{-1, -2}}, 0, api.ErrUnknown},
		{"To is 2", 200, []Step{{0, 0}, {0, 2}}, 0, api.ErrUnknown},
		{"far away", 200, []Step{{math.MinInt, math.MaxInt}}, 0, api.ErrUnknown},
		{"neither", 200, []Step{{0, 0}, {-1, -1}, {2, 2}}, 0, api.ErrEmpty},
		{"From twice", 200, []Step{{0, -1}, {1, -1}, {0, 0}, {-1, -1}}, 0, api.ErrTwice},
		{"To twice", 200, []Step{{0, 0}, {1, -1}, {-1, 0}, {-1, 1}}, 0, api.ErrTwice},
		{"To twice, with another shape", 200, []Step{{0, 0}, {1, 0}}, 0, api.ErrTwice},
		{"a step twice", 200, []Step{{1, -1}, {1, -1}}, 0, api.ErrTwice},
		{"other shapes", 200, []Step{{1, 1}, {0, 0}, {0, 0}}, 0, api.ErrConflict},
		{"the shapes of the other bolts", 200, []Step{{0, 1}, {1, 0}}, 0, api.ErrConflict},
		{"nothing", 200, nil, 0, api.ErrNone},
		{"a bolt of the first setting in no step", 200, []Step{{0, 0}, {-1, 1}}, 0, api.ErrNone},
		{"a bolt of the second setting in no step", 200, []Step{{0, 0}, {1, -1}}, 0, api.ErrNone},
		{"one of each in no step", 200, []Step{{0, 0}}, 0, api.ErrNone},
		{"the first bolts in no step", 200, []Step{{1, -1}, {-1, 1}}, 0, api.ErrNone},
		{"a step that is none behind bolts that are all there", 200, append(slices.Clone(good), Step{2, -1}), 0, api.ErrUnknown},
	} {
		cost, e := CheckPlan(settingA(), settingB(), row.store, row.l)
		want(t, row.name, []any{cost, e}, []any{row.cost, row.e})
	}
	var l []Step
	for i := range 64 {
		l = append(l, Step{i, -1}, Step{-1, 63 - i})
	}
	cost, e := CheckPlan(row(64, "jug"), row(64, "jug"), 1000000, l)
	want(t, "128 steps", []any{cost, e}, []any{128000000, api.OK})
	cost, e = CheckPlan(nil, nil, 5, nil)
	want(t, "nothing to nothing", []any{cost, e}, []any{0, api.OK})
	cost, e = CheckPlan(row(1, "jug"), nil, 5, []Step{{0, 0}})
	want(t, "no second setting", []any{cost, e}, []any{0, api.ErrUnknown})
	far := []Bolt{{place(1, -2, 3), "jug"}}
	cost, e = CheckPlan(row(1, "jug"), far, 1, []Step{{0, 0}})
	want(t, "a step that is dearer than the store", []any{cost, e}, []any{6, api.OK})
}

// P3.6: CheckPrices.
func TestCheckPrices(t *testing.T) {
	for _, row := range []struct {
		name  string
		store int
		p, q  []int
		sum   int
		e     api.Errno
	}{
		{"of the chapter", 200, []int{50, 200}, []int{0, 200}, 450, api.OK},
		{"other ones", 200, []int{-150, 200}, []int{200, 200}, 450, api.OK},
		{"less", 200, []int{0, 0}, []int{0, 0}, 0, api.OK},
		{"with a cheap store", 20, []int{20, 20}, []int{20, 20}, 80, api.OK},
		{"the least ones", 200, []int{-999999999, -999999999}, []int{-999999999, -999999999}, -3999999996, api.OK},
		{"above the store", 200, []int{50, 201}, []int{0, 200}, 0, api.ErrProof},
		{"above the store in the second setting", 200, []int{50, 200}, []int{0, 201}, 0, api.ErrProof},
		{"above the cost of a step", 200, []int{51, 200}, []int{0, 200}, 0, api.ErrProof},
		{"above the cost of a step, one below 0", 200, []int{-149, 200}, []int{200, 200}, 0, api.ErrProof},
		{"far above", 200, []int{999999999, 0}, []int{-999999999, 0}, 0, api.ErrProof},
		{"too great", 200, []int{1000000000, 0}, []int{0, 0}, 0, api.ErrRange},
		{"too small", 200, []int{0, 0}, []int{0, -1000000000}, 0, api.ErrRange},
		{"the last and the first number of all", 200, []int{math.MaxInt, math.MaxInt}, []int{math.MinInt, math.MinInt}, 0, api.ErrRange},
		{"no proof ahead of a number that is none", 200, []int{201, 0}, []int{0, math.MaxInt}, 0, api.ErrRange},
		{"one price", 200, []int{0}, []int{0, 0}, 0, api.ErrShape},
		{"three prices", 200, []int{0, 0, 0}, []int{0, 0}, 0, api.ErrShape},
		{"one price of the second setting", 200, []int{0, 0}, []int{0}, 0, api.ErrShape},
		{"one price more, one less", 200, []int{0, 0, 0}, []int{0}, 0, api.ErrShape},
		{"nothing", 200, nil, nil, 0, api.ErrShape},
		{"a number that is none ahead of prices that are too few", 200, []int{math.MaxInt, 0}, nil, 0, api.ErrShape},
	} {
		sum, e := CheckPrices(settingA(), settingB(), row.store, row.p, row.q)
		want(t, row.name, []any{sum, e}, []any{row.sum, row.e})
	}
	sum, e := CheckPrices(nil, nil, 0, nil, nil)
	want(t, "nothing to nothing", []any{sum, e}, []any{0, api.OK})
	sum, e = CheckPrices(nil, row(2, "jug"), 9, nil, []int{9, 8})
	want(t, "from nothing", []any{sum, e}, []any{17, api.OK})
}

// P3.6: CheckPrices of prices that are nearly right.
func TestCheckPricesAtRandom(t *testing.T) {
	r := rand.New(rand.NewSource(11))
	proofs := 0
	for range 3000 {
		a := randomSetting(r, 1+r.Intn(4), 4, 2)
		b := randomSetting(r, 1+r.Intn(4), 4, 2)
		store := r.Intn(12)
		p, q, _ := Prices(a, b, store)
		cost := slowCost(a, b, store)
		p[r.Intn(len(p))] += r.Intn(3) - 1
		q[r.Intn(len(q))] += r.Intn(3) - 1
		x, e := CheckPrices(a, b, store, p, q)
		if !slowProof(a, b, store, p, q) {
			want(t, "no proof", []any{x, e}, []any{0, api.ErrProof})
			continue
		}
		proofs++
		total := 0
		for _, n := range slices.Concat(p, q) {
			total += n
		}
		want(t, "a proof", []any{x, e}, []any{total, api.OK})
		want(t, "no more than the cost", x <= cost, true)
	}
	want(t, "some proofs", proofs > 500 && proofs < 2500, true)
}

// The results share no memory with each other, and the arguments are not changed.
func TestChangeMemory(t *testing.T) {
	a, b := settingA(), settingB()
	p, q, _ := Prices(a, b, 200)
	Plan(a, b, 200)
	want(t, "the arguments stay", []any{a, b}, []any{settingA(), settingB()})
	copied := slices.Clone(q)
	p = append(p, 7, 7, 7)
	p[0] = 9
	want(t, "prices", q, copied)
	steps := []Step{{-1, 1}, {1, -1}, {0, 0}}
	CheckPlan(a, b, 200, steps)
	want(t, "steps", steps, []Step{{-1, 1}, {1, -1}, {0, 0}})
}
