package rope_test

import (
	"math"
	"math/big"
	"math/rand"
	"strings"
	"testing"

	"crux/api"
	"crux/rope"
)

// some draws arguments of any form.
type some struct {
	*rand.Rand
}

func (r some) number() int {
	l := []int{0, 0, 1, 1, 2, 3, 10, 40, 100, -1, -2, 99999, 100000, -100000, 100001, 1000000, 1000001, 999999999, math.MaxInt, math.MinInt}
	return l[r.Intn(len(l))]
}

func (r some) name() string {
	return []string{"r", "s", "rope", "sling", "buy", "fall", "inspect", "retire", "fit", "due", "retired", "", "1", "a b", "\xff", strings.Repeat("a", 5000)}[r.Intn(16)]
}

func (r some) rat() api.Rat {
	return []api.Rat{"0", "1", "2", "3/2", "1000", "80", "-1", "1/7", "", "x", "2/4", "1/0", nines(600), nines(601), "1/" + nines(600), nines(599) + "/" + power(598)}[r.Intn(16)]
}

func (r some) place() api.Place {
	if r.Intn(8) > 0 {
		return randomPlace(r.Rand, 2)
	}
	return place(r.number(), r.number(), r.number())
}

func (r some) places() []api.Place {
	var l []api.Place
	for range r.Intn(6) {
		l = append(l, r.place())
	}
	return l
}

func (r some) table() []api.Point {
	if r.Intn(2) == 0 {
		return randomFriction(r.Rand)
	}
	var t []api.Point
	for range r.Intn(4) {
		t = append(t, api.Point{X: r.rat(), Y: r.rat()})
	}
	return t
}

func (r some) fall() rope.Fall {
	f := shortFall(r.Rand)
	switch r.Intn(6) {
	case 0:
		f.Mass = span(r.rat(), r.rat())
	case 1:
		f.Modulus = span(r.rat(), r.rat())
	case 2:
		f.Rope, f.Above, f.Slack = r.number(), r.number(), r.number()
	}
	return f
}

func (r some) numbers() []int {
	var l []int
	for range r.Intn(5) {
		l = append(l, r.number())
	}
	return l
}

func (r some) rules() []rope.Rule {
	l := rules()[:r.Intn(3)]
	if r.Intn(4) == 0 {
		l = append(l, rope.Rule{Kind: r.name(), Life: r.number(), Interval: r.number(), Falls: r.number()})
	}
	return l
}

func (r some) acts() []rope.Act {
	l := acts()[:r.Intn(5)]
	for range r.Intn(3) {
		l = append(l, rope.Act{Day: r.number(), Kind: r.name(), Item: r.name(), Of: r.name(), Value: r.number()})
	}
	return l
}

// P1: every function of lines and falls terminates and never panics, and beside an error there are zero values.
func TestAnyFalls(t *testing.T) {
	r := some{rand.New(rand.NewSource(11))}
	for range 5000 {
		l, friction, f, n, m := r.places(), r.table(), r.fall(), r.number(), r.number()
		for what, e := range map[string]api.Errno{"CheckLine": rope.CheckLine(l), "CheckFriction": rope.CheckFriction(friction), "CheckFall": rope.CheckFall(f), "Safe": rope.Safe(f, n, m)} {
			want(t, what, e >= api.OK && e <= api.ErrUnsafe, true)
		}
		for what, of := range map[string]func() (api.Rat, api.Errno){
			"Turn":   func() (api.Rat, api.Errno) { return rope.Turn(l, n) },
			"Drag":   func() (api.Rat, api.Errno) { return rope.Drag(l, friction) },
			"Factor": func() (api.Rat, api.Errno) { return rope.Factor(f) },
		} {
			x, e := of()
			want(t, what, x == "", e != api.OK)
			again, e2 := of()
			want(t, what+" again", []any{again, e2}, []any{x, e})
		}
		for what, of := range map[string]func() (api.Span, api.Errno){
			"Length":  func() (api.Span, api.Errno) { return rope.Length(l) },
			"Force":   func() (api.Span, api.Errno) { return rope.Force(f) },
			"Stretch": func() (api.Span, api.Errno) { return rope.Stretch(f) },
			"Clear":   func() (api.Span, api.Errno) { return rope.Clear(f, n) },
			"Top":     func() (api.Span, api.Errno) { return rope.Top(f, l, friction) },
		} {
			s, e := of()
			want(t, what, s == api.Span{}, e != api.OK)
		}
	}
}

// P1: the same for anchors.
func TestAnyAnchors(t *testing.T) {
	r := some{rand.New(rand.NewSource(12))}
	for range 20000 {
		a, limits := rope.Anchor{Strands: r.places(), Load: r.place()}, r.numbers()
		shares, e := rope.Shares(a)
		want(t, "Shares", len(shares) > 0, e == api.OK)
		tensions, f := rope.Tensions(a)
		want(t, "Tensions", []any{len(tensions), f}, []any{len(shares), e})
		if wrong := rope.CheckAnchor(a); wrong != api.OK {
			want(t, "the error of the anchor", e, wrong)
		}
		n, f := rope.Holds(a, limits)
		want(t, "Holds", n >= 0 && (n == 0 || f == api.ErrUnsafe && n < len(limits)), true)
	}
}

// P1: the same for registers.
func TestAnyRegisters(t *testing.T) {
	r := some{rand.New(rand.NewSource(13))}
	for range 20000 {
		rules, l, item, day := r.rules(), r.acts(), r.name(), r.number()
		n, e := rope.CheckRegister(rules, l)
		want(t, "CheckRegister", n == 0 || e != api.OK && n < len(l), true)
		aside, f := rope.Aside(rules, l)
		want(t, "Aside", []any{f, len(aside) > 0 && f != api.OK}, []any{e, false})
		status, f := rope.Status(rules, l, item, day)
		want(t, "Status", status == "", f != api.OK)
		next, f := rope.Next(rules, l, item, day)
		want(t, "Next", next == 0, f != api.OK)
		items, f := rope.Items(rules, l, item, day)
		want(t, "Items", len(items) > 0 && f != api.OK, false)
		if e != api.OK {
			want(t, "the error of the register", f, e)
		}
	}
}

// P1: results are new, and share no memory with arguments or each other.
func TestMemory(t *testing.T) {
	a := vee(place(0, 0, -800))
	shares, _ := rope.Shares(a)
	shares[0] = "changed"
	again, _ := rope.Shares(a)
	want(t, "Shares", again, []api.Rat{"1", "1"})
	tensions, _ := rope.Tensions(a)
	tensions[0] = api.Span{}
	more, _ := rope.Tensions(a)
	want(t, "Tensions", more, []api.Span{only("500"), only("500")})
	l := append(acts(), inspect(41, "r"))
	aside, _ := rope.Aside(rules(), l)
	aside[0] = -1
	aside, _ = rope.Aside(rules(), l)
	want(t, "Aside", aside, []int{4})
	items, _ := rope.Items(rules(), l, "fit", 0)
	items[0] = "changed"
	items, _ = rope.Items(rules(), l, "fit", 0)
	want(t, "Items", items, []string{"r"})
}

// P1: a drag of as many long numbers as there can be.
func TestLargestDrag(t *testing.T) {
	r := rand.New(rand.NewSource(14))
	var friction []api.Point
	for i := range int64(3) {
		x, y := big.NewRat(i-1, 1), big.NewRat(5-i, 1)
		little := func() *big.Rat { return new(big.Rat).SetFrac(tenTo(597, r.Int63()), tenTo(598, r.Int63())) }
		friction = append(friction, api.Point{X: textOf(minus(x, little())), Y: textOf(plus(y, little()))})
	}
	want(t, "CheckFriction", rope.CheckFriction(friction), api.OK)
	_, e := rope.Drag(randomLine(r, 32, 100000), friction)
	want(t, "Drag", e, api.ErrLarge)
}
