package rope_test

import (
	"math"
	"math/big"
	"math/rand"
	"testing"

	"crux/api"
	"crux/rope"
)

// example is the fall of the chapter's example.
func example() rope.Fall {
	return rope.Fall{Mass: only("80"), Modulus: only("15680"), Rope: 8000, Above: 1000}
}

// hanging is a fall without any height and slack.
func hanging() rope.Fall {
	return changed(example(), func(f *rope.Fall) { f.Above = 0 })
}

// changed returns a fall that has been edited.
func changed(f rope.Fall, edit func(f *rope.Fall)) rope.Fall {
	edit(&f)
	return f
}

type wrongFall struct {
	name string
	edit func(f *rope.Fall)
	e    api.Errno
}

func wrongFalls() []wrongFall {
	l := []wrongFall{
		{"no mass", func(f *rope.Fall) { f.Mass = api.Span{} }, api.ErrForm},
		{"no upper end of the mass", func(f *rope.Fall) { f.Mass.High = "1/0" }, api.ErrForm},
		{"a large mass", func(f *rope.Fall) { f.Mass.High = nines(601) }, api.ErrLarge},
		{"a mass in the wrong order", func(f *rope.Fall) { f.Mass = span("81", "80") }, api.ErrOrder},
		{"a mass in the wrong order, and below 0", func(f *rope.Fall) { f.Mass = span("0", "-1") }, api.ErrOrder},
		{"a mass of 0", func(f *rope.Fall) { f.Mass = only("0") }, api.ErrRange},
		{"a mass from 0 on", func(f *rope.Fall) { f.Mass.Low = "0" }, api.ErrRange},
		{"a mass from below 0 on", func(f *rope.Fall) { f.Mass.Low = "-1/1000" }, api.ErrRange},
		{"a mass above 1000", func(f *rope.Fall) { f.Mass.High = "1000001/1000" }, api.ErrRange},
		{"a mass above 1000 everywhere", func(f *rope.Fall) { f.Mass = only("1001") }, api.ErrRange},
		{"a mass that is too great ahead of no modulus", func(f *rope.Fall) { f.Mass, f.Modulus = only("1001"), api.Span{} }, api.ErrRange},
		{"no mass ahead of a modulus of 0", func(f *rope.Fall) { f.Mass, f.Modulus = api.Span{}, only("0") }, api.ErrForm},
		{"no modulus", func(f *rope.Fall) { f.Modulus = api.Span{} }, api.ErrForm},
		{"a large modulus", func(f *rope.Fall) { f.Modulus = only("1/" + nines(601)) }, api.ErrLarge},
		{"a modulus in the wrong order", func(f *rope.Fall) { f.Modulus = span("10000001", "1") }, api.ErrOrder},
		{"a modulus of 0", func(f *rope.Fall) { f.Modulus = only("0") }, api.ErrRange},
		{"a modulus from 0 on", func(f *rope.Fall) { f.Modulus.Low = "0" }, api.ErrRange},
		{"a modulus above 10000000", func(f *rope.Fall) { f.Modulus.High = "20000001/2" }, api.ErrRange},
		{"no modulus ahead of no rope", func(f *rope.Fall) { f.Modulus, f.Rope = only("x"), 0 }, api.ErrForm},
		{"no rope", func(f *rope.Fall) { f.Rope = 0 }, api.ErrRange},
	}
	for _, n := range []int{-1, 100001, math.MaxInt, math.MinInt} {
		l = append(l,
			wrongFall{"Rope", func(f *rope.Fall) { f.Rope = n }, api.ErrRange},
			wrongFall{"Above", func(f *rope.Fall) { f.Above = n }, api.ErrRange},
			wrongFall{"Slack", func(f *rope.Fall) { f.Slack = n }, api.ErrRange},
		)
	}
	return l
}

// P4.2: the errors of falls, in their order, beside zero values and ahead of those of other arguments.
func TestWrongFalls(t *testing.T) {
	for _, row := range wrongFalls() {
		f := changed(example(), row.edit)
		want(t, row.name, rope.CheckFall(f), row.e)
		factor, e := rope.Factor(f)
		want(t, row.name+": Factor", []any{factor, e}, []any{api.Rat(""), row.e})
		force, e := rope.Force(f)
		want(t, row.name+": Force", []any{force, e}, []any{api.Span{}, row.e})
		stretch, e := rope.Stretch(f)
		want(t, row.name+": Stretch", []any{stretch, e}, []any{api.Span{}, row.e})
		for _, height := range []int{5000, -1} {
			left, e := rope.Clear(f, height)
			want(t, row.name+": Clear", []any{left, e}, []any{api.Span{}, row.e})
			want(t, row.name+": Safe", rope.Safe(f, height, 9000), row.e)
			want(t, row.name+": Safe", rope.Safe(f, 5000, height), row.e)
		}
		for _, l := range [][]api.Place{around(), nil, places(0, 0, 0, 0, 0, 0)} {
			top, e := rope.Top(f, l, nil)
			want(t, row.name+": Top", []any{top, e}, []any{api.Span{}, row.e})
		}
	}
}

// P4.2: falls without errors.
func TestCheckFall(t *testing.T) {
	for name, edit := range map[string]func(f *rope.Fall){
		"of the chapter":              func(*rope.Fall) {},
		"a mass above 0, up to 1000":  func(f *rope.Fall) { f.Mass = span("1/"+nines(600), "1000") },
		"a modulus of all it can be":  func(f *rope.Fall) { f.Modulus = span("1/"+nines(600), "10000000") },
		"a mass just below 1000":      func(f *rope.Fall) { f.Mass = only(nines(600) + "/" + power(597)) },
		"the shortest rope":           func(f *rope.Fall) { f.Rope = 1 },
		"the longest rope":            func(f *rope.Fall) { f.Rope = 100000 },
		"no height":                   func(f *rope.Fall) { f.Above = 0 },
		"the greatest height":         func(f *rope.Fall) { f.Above = 100000 },
		"the greatest slack":          func(f *rope.Fall) { f.Slack = 100000 },
		"a height above the rope":     func(f *rope.Fall) { f.Rope, f.Above = 1, 100000 },
		"a mass, and a great modulus": func(f *rope.Fall) { f.Mass, f.Modulus = only("1000"), only("10000000") },
	} {
		want(t, name, rope.CheckFall(changed(example(), edit)), api.OK)
	}
}

// P4.2: the errors of Clear and Safe for a height and a limit, and of Top for its line and its friction.
func TestWrongHeights(t *testing.T) {
	for _, n := range []int{-1, 100001, math.MaxInt, math.MinInt} {
		left, e := rope.Clear(example(), n)
		want(t, "Clear of a wrong height", []any{left, e}, []any{api.Span{}, api.ErrRange})
		want(t, "Safe with a wrong height", rope.Safe(example(), n, 9000), api.ErrRange)
		want(t, "Safe with a wrong height, and a limit", rope.Safe(example(), n, 1), api.ErrRange)
	}
	for _, n := range []int{0, -1, 1000001, math.MaxInt, math.MinInt} {
		want(t, "Safe with a wrong limit", rope.Safe(example(), 5000, n), api.ErrRange)
		want(t, "Safe with a wrong limit, and not safe", rope.Safe(example(), 0, n), api.ErrRange)
	}
	for _, row := range wrongLines() {
		for _, f := range [][]api.Point{friction(), nil} {
			top, e := rope.Top(example(), row.l, f)
			want(t, row.name+": Top", []any{top, e}, []any{api.Span{}, row.e})
		}
	}
	for _, row := range wrongFrictions() {
		top, e := rope.Top(example(), around(), row.t)
		want(t, row.name+": Top", []any{top, e}, []any{api.Span{}, row.e})
	}
}

// P4.2: Factor, Force and Stretch.
func TestFalls(t *testing.T) {
	for _, row := range []struct {
		name    string
		edit    func(f *rope.Fall)
		factor  api.Rat
		force   api.Span
		stretch api.Span
	}{
		{"of the chapter", func(*rope.Fall) {}, "1/4", span("3384233/1000", "1692117/500"), span("1726649/1000", "34533/20")},
		{"hanging", func(f *rope.Fall) { f.Above = 0 }, "0", only("1568"), only("800")},
		{"hanging, with spans", func(f *rope.Fall) { f.Above, f.Mass, f.Modulus = 0, span("50", "100"), span("9800", "19600") }, "0", span("980", "1960"), span("400", "1600")},
		{"slack alone", func(f *rope.Fall) { f.Above, f.Slack = 0, 2000 }, "1/4", span("3384233/1000", "1692117/500"), span("1726649/1000", "34533/20")},
		{"height and slack", func(f *rope.Fall) { f.Above, f.Slack = 400, 1200 }, "1/4", span("3384233/1000", "1692117/500"), span("1726649/1000", "34533/20")},
		{"a height of half the rope", func(f *rope.Fall) { f.Rope, f.Above, f.Modulus = 8000, 4000, only("3136") }, "1", only("3136"), only("8000")},
		{"a root of sevenths", func(f *rope.Fall) { f.Rope, f.Slack, f.Above, f.Mass, f.Modulus = 7, 7, 0, only("5/343"), only("4/7") }, "1", only("4/7"), only("7")},
		{"the factor 2", func(f *rope.Fall) { f.Rope = 1000 }, "2", only("7840"), only("500")},
		{"the greatest factor", func(f *rope.Fall) { f.Rope, f.Above, f.Slack = 1, 100000, 100000 }, "300000", span("2716639779/1000", "135831989/50"), span("34651/200", "21657/125")},
	} {
		f := changed(example(), row.edit)
		factor, e := rope.Factor(f)
		want(t, row.name+": Factor", []any{factor, e}, []any{row.factor, api.OK})
		force, e := rope.Force(f)
		want(t, row.name+": Force", []any{force, e}, []any{row.force, api.OK})
		stretch, e := rope.Stretch(f)
		want(t, row.name+": Stretch", []any{stretch, e}, []any{row.stretch, api.OK})
	}
}

// P4.2: Clear.
func TestClear(t *testing.T) {
	for _, row := range []struct {
		name   string
		f      rope.Fall
		height int
		left   api.Span
	}{
		{"of the chapter", example(), 5000, span("25467/20", "1273351/1000")},
		{"on the ground", example(), 0, span("-74533/20", "-3726649/1000")},
		{"hanging", hanging(), 800, only("0")},
		{"hanging, with spans", changed(hanging(), func(f *rope.Fall) { f.Mass = span("40", "80") }), 1000, span("200", "600")},
		{"height and slack", changed(example(), func(f *rope.Fall) { f.Above, f.Slack = 400, 1200 }), 5000, span("25467/20", "1273351/1000")},
		{"the greatest height", hanging(), 100000, only("99200")},
	} {
		left, e := rope.Clear(row.f, row.height)
		want(t, row.name, []any{left, e}, []any{row.left, api.OK})
	}
}

// P4.2: Top.
func TestTop(t *testing.T) {
	straight := places(0, 0, 0, 0, 0, 1)
	for _, row := range []struct {
		name string
		f    rope.Fall
		l    []api.Place
		t    []api.Point
		top  api.Span
	}{
		{"without drag", hanging(), straight, friction(), only("3136")},
		{"with the drag of the chapter", hanging(), around(), friction(), only("20384/9")},
		{"with a drag of 2", hanging(), places(0, 0, 0, 0, 0, 1, 0, 0, 0), friction(), only("2352")},
		{"of the chapter, without drag", example(), straight, friction(), span("3384233/500", "1692117/250")},
		{"of the chapter, with its drag", example(), around(), friction(), span("43995029/9000", "2444169/500")},
	} {
		top, e := rope.Top(row.f, row.l, row.t)
		want(t, row.name, []any{top, e}, []any{row.top, api.OK})
	}
}

// P4.2: Safe, at its limits, and for the ends of spans.
func TestSafe(t *testing.T) {
	mass := changed(hanging(), func(f *rope.Fall) { f.Mass.Low = "1" })
	modulus := changed(hanging(), func(f *rope.Fall) { f.Modulus.High = "10000000" })
	firm := changed(hanging(), func(f *rope.Fall) { f.Modulus.Low = "7840" })
	for _, row := range []struct {
		name          string
		f             rope.Fall
		height, limit int
		e             api.Errno
	}{
		{"at both limits", hanging(), 800, 1568, api.OK},
		{"a lower limit", hanging(), 800, 1567, api.ErrUnsafe},
		{"a lower height", hanging(), 799, 1568, api.ErrUnsafe},
		{"both", hanging(), 799, 1567, api.ErrUnsafe},
		{"as safe as can be", hanging(), 100000, 1000000, api.OK},
		{"as unsafe as can be", hanging(), 0, 1, api.ErrUnsafe},
		{"the greatest mass, safe", mass, 800, 1568, api.OK},
		{"the greatest mass, with a lower limit", mass, 800, 1567, api.ErrUnsafe},
		{"the greatest mass, with a lower height", mass, 799, 1568, api.ErrUnsafe},
		{"the least modulus, safe", modulus, 800, 1568, api.OK},
		{"the least modulus, with a lower height", modulus, 799, 1568, api.ErrUnsafe},
		{"a lower modulus, safe", firm, 1600, 1568, api.OK},
		{"a lower modulus, with a lower height", firm, 1599, 1568, api.ErrUnsafe},
		{"the upper end of the force", example(), 5000, 3385, api.OK},
		{"between the ends of the force and the limit below", example(), 5000, 3384, api.ErrUnsafe},
		{"the lower end of what is left", example(), 3727, 3385, api.OK},
		{"just too low", example(), 3726, 3385, api.ErrUnsafe},
	} {
		want(t, row.name, rope.Safe(row.f, row.height, row.limit), row.e)
	}
}

// P4.2: the ends of roots decide what is safe, not the numbers between them.
func TestSafeAtTheEndsOfRoots(t *testing.T) {
	// Masses whose force, or stretch, is a little below a whole number, but not the upper end of its root.
	f := changed(hanging(), func(f *rope.Fall) { f.Above = 1 })
	found := 0
	for n := range 20000 {
		f.Mass = only(textOf(big.NewRat(int64(70000+n), 1000)))
		force, _ := rope.Force(f)
		limit := new(big.Int).Quo(bigRat(force.Low).Num(), bigRat(force.Low).Denom()).Int64() + 1
		if bigRat(force.High).Cmp(big.NewRat(limit, 1)) > 0 {
			found++
			want(t, "the upper end is above the limit", rope.Safe(f, 100000, int(limit)), api.ErrUnsafe)
			want(t, "one newton more", rope.Safe(f, 100000, int(limit)+1), api.OK)
		}
	}
	want(t, "there are such masses", found > 0, true)
}

// wantedFall is what the chapter says of a fall, without limits.
type wantedFall struct {
	factor                *big.Rat
	force, stretch, clear [2]*big.Rat
}

func wanted(f rope.Fall, height int) wantedFall {
	distance, length := wholeRat(2*f.Above+f.Slack), wholeRat(f.Rope)
	factor := over(distance, length)
	weight := func(mass api.Rat) *big.Rat { return times(bigRat(mass), big.NewRat(49, 5)) }
	force := func(mass, modulus api.Rat) (*big.Rat, *big.Rat) {
		w := weight(mass)
		low, high := root(plus(times(w, w), times(wholeRat(2), w, bigRat(modulus), factor)))
		return plus(w, low), plus(w, high)
	}
	stretch := func(mass, modulus api.Rat) (*big.Rat, *big.Rat) {
		r := over(times(weight(mass), length), bigRat(modulus))
		low, high := root(plus(times(r, r), times(wholeRat(2), r, distance)))
		return plus(r, low), plus(r, high)
	}
	w := wantedFall{factor: factor}
	w.force[0], _ = force(f.Mass.Low, f.Modulus.Low)
	_, w.force[1] = force(f.Mass.High, f.Modulus.High)
	w.stretch[0], _ = stretch(f.Mass.Low, f.Modulus.High)
	_, w.stretch[1] = stretch(f.Mass.High, f.Modulus.Low)
	rest := minus(wholeRat(height), distance)
	w.clear = [2]*big.Rat{minus(rest, w.stretch[1]), minus(rest, w.stretch[0])}
	return w
}

// checkFall compares all results for a fall with the wanted ones, and returns the errors.
func checkFall(t *testing.T, f rope.Fall, height, limit int) []api.Errno {
	t.Helper()
	w := wanted(f, height)
	factor, e := rope.Factor(f)
	want(t, "Factor", []any{factor, e}, []any{textOf(w.factor), api.OK})
	var errors []api.Errno
	for _, row := range []struct {
		name string
		of   func() (api.Span, api.Errno)
		ends [2]*big.Rat
	}{
		{"Force", func() (api.Span, api.Errno) { return rope.Force(f) }, w.force},
		{"Stretch", func() (api.Span, api.Errno) { return rope.Stretch(f) }, w.stretch},
		{"Clear", func() (api.Span, api.Errno) { return rope.Clear(f, height) }, w.clear},
	} {
		got, e := row.of()
		s, wantedError := resultSpan(row.ends[0], row.ends[1])
		want(t, row.name, []any{got, e}, []any{s, wantedError})
		errors = append(errors, e)
	}
	isSafe := w.force[1].Cmp(wholeRat(limit)) <= 0 && w.clear[0].Sign() >= 0
	want(t, "Safe", rope.Safe(f, height, limit) == api.OK, isSafe)
	return errors
}

// P4.2: falls at random, with short numbers and with long ones.
func TestFallsAtRandom(t *testing.T) {
	r := rand.New(rand.NewSource(2))
	large, fine, safe := 0, 0, 0
	for range 500 {
		f, height, limit := randomFall(r), r.Intn(100001), 1+r.Intn(1000000)
		for _, e := range checkFall(t, f, height, limit) {
			if e == api.OK {
				fine++
			} else {
				large++
			}
		}
		if rope.Safe(f, height, limit) == api.OK {
			safe++
		}
	}
	want(t, "results of all kinds", large > 50 && fine > 500 && safe > 20, true)
}

// P4.2: numbers on the way may have more than MaxDigits digits, those of results may not.
func TestLongNumbers(t *testing.T) {
	long := func(digits int, more int64) api.Rat {
		return textOf(new(big.Rat).SetFrac(big.NewInt(1), tenTo(digits-1, more)))
	}
	above := func(n int64, digits int) api.Rat { // a little above n
		return textOf(plus(big.NewRat(n, 1), new(big.Rat).SetFrac(big.NewInt(4), tenTo(digits-1, 1))))
	}
	for _, row := range []struct {
		name                  string
		mass, modulus         api.Span
		rope, above           int
		force, stretch, clear api.Errno
	}{
		// The square under the root has the square of the denominator of the mass.
		{"a mass of 590 digits", only(long(590, 7)), only("15680"), 8000, 1000, api.OK, api.OK, api.OK},
		{"a mass of 600 digits", only(long(600, 7)), only("15680"), 8000, 1000, api.ErrLarge, api.ErrLarge, api.ErrLarge},
		{"a lower end of 600 digits", span(long(596, 7), "80"), only("15680"), 8000, 1000, api.OK, api.OK, api.OK},
		{"a lower end of the force that is not rounded", span(long(600, 7), "80"), only("15680"), 8000, 1000, api.OK, api.OK, api.ErrLarge},
		{"an upper end that is too long", span("1", above(80, 598)), only("15680"), 8000, 1000, api.ErrLarge, api.ErrLarge, api.ErrLarge},
		{"a modulus that only the stretch has", only("80"), only(long(600, 7)), 8000, 1000, api.OK, api.ErrLarge, api.ErrLarge},
		{"a stretch that is too long where what is left is not", only(above(9, 600)), only("49"), 5, 0, api.ErrLarge, api.ErrLarge, api.OK},
	} {
		f := rope.Fall{Mass: row.mass, Modulus: row.modulus, Rope: row.rope, Above: row.above}
		errors := checkFall(t, f, 20, 3000)
		want(t, row.name, errors, []api.Errno{row.force, row.stretch, row.clear})
		checkFall(t, f, 100000, 1000000)
	}
}

// P4.2: the load of the last quickdraw fits although the force does not.
func TestTopOverLargeForces(t *testing.T) {
	// The force is 98 u v / 5 (2 u - 1) s, the drag u / (u - 1).
	u, v, s := tenTo(300, 7), tenTo(299, 9), tenTo(299, 11)
	uv := new(big.Int).Mul(u, v)
	both := new(big.Int).Sub(new(big.Int).Lsh(u, 1), big.NewInt(1))
	f := changed(hanging(), func(f *rope.Fall) {
		f.Mass = only(textOf(new(big.Rat).SetFrac(uv, new(big.Int).Mul(both, s))))
	})
	want(t, "CheckFall", rope.CheckFall(f), api.OK)
	_, e := rope.Force(f)
	want(t, "Force", e, api.ErrLarge)
	friction := table("0", textOf(new(big.Rat).SetFrac(u, new(big.Int).Sub(u, big.NewInt(1)))))
	top, e := rope.Top(f, places(0, 0, 0, 0, 0, 1, 0, 1, 1), friction)
	wanted := new(big.Rat).SetFrac(new(big.Int).Mul(v, big.NewInt(98)), new(big.Int).Mul(s, big.NewInt(5)))
	want(t, "Top", []any{top, e}, []any{only(textOf(wanted)), api.OK})
}

// P4.2: it fits although the drag does not, or a value on the way to the drag.
func TestTopOverLargeDrags(t *testing.T) {
	l, friction := cancelling()
	top, e := rope.Top(hanging(), l, friction)
	want(t, "Top with a drag of large values", []any{top, e}, []any{only("980049/625"), api.OK})

	// The drag is n / d, and the force is 98/5 times m n / k (n + d).
	m, k := tenTo(12, 1), tenTo(12, 3)
	n1 := new(big.Int).Mul(k, tenTo(291, 9))
	d1 := new(big.Int).Sub(n1, big.NewInt(1))
	n2 := tenTo(303, 7)
	n := new(big.Int).Mul(n1, n2)
	// d1 times n2 less rest is the opposite of n, modulo m.
	rest := new(big.Int).Mul(n, new(big.Int).ModInverse(d1, m))
	d2 := new(big.Int).Sub(n2, rest.Add(rest, n2).Mod(rest, m))
	both := new(big.Int).Add(n, new(big.Int).Mul(d1, d2))
	f := changed(hanging(), func(f *rope.Fall) {
		p, q := new(big.Int).Quo(n, k), new(big.Int).Quo(both, m)
		f.Mass = only(textOf(new(big.Rat).SetFrac(p, q)))
	})
	want(t, "CheckFall", rope.CheckFall(f), api.OK)
	l = places(0, 0, 0, 0, 0, 1, 0, 0, 0, 0, 1, 0)
	friction = table("-1", textOf(new(big.Rat).SetFrac(n2, d2)), "0", textOf(new(big.Rat).SetFrac(n1, d1)))
	_, e = rope.Drag(l, friction)
	want(t, "Drag", e, api.ErrLarge)
	top, e = rope.Top(f, l, friction)
	wanted := times(big.NewRat(98, 5), new(big.Rat).SetFrac(m, k))
	want(t, "Top", []any{top, e}, []any{only(textOf(wanted)), api.OK})
}

// P4.2: Top at random.
func TestTopAtRandom(t *testing.T) {
	r := rand.New(rand.NewSource(3))
	for range 500 {
		f, l, friction := randomFall(r), randomLine(r, 2+r.Intn(5), 5), randomFriction(r)
		drag, _ := rope.Drag(l, friction)
		both := plus(wholeRat(1), over(wholeRat(1), bigRat(drag)))
		force := wanted(f, 0).force
		s, wantedError := resultSpan(times(force[0], both), times(force[1], both))
		top, e := rope.Top(f, l, friction)
		want(t, "Top", []any{top, e}, []any{s, wantedError})
	}
}
