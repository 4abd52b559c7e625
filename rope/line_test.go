package rope_test

import (
	"math"
	"math/big"
	"math/rand"
	"slices"
	"testing"

	"crux/api"
	"crux/number"
	"crux/rope"
)

// around is the line of the chapter's example.
func around() []api.Place {
	return places(0, 0, 0, 0, 0, 3000, 0, 4000, 3000, 0, 4000, 6000)
}

// friction is the friction of the chapter's example.
func friction() []api.Point {
	return table("-1", "2", "0", "3/2", "1", "1")
}

// ladder is a line of n places, 10 apart.
func ladder(n int) []api.Place {
	var l []api.Place
	for i := range n {
		l = append(l, place(0, 0, 10*i))
	}
	return l
}

type wrongLine struct {
	name string
	l    []api.Place
	e    api.Errno
}

func wrongLines() []wrongLine {
	l := []wrongLine{
		{"no place", nil, api.ErrShape},
		{"one place", places(0, 0, 0), api.ErrShape},
		{"one place that is far away", places(100001, 0, 0), api.ErrShape},
		{"33 places", ladder(33), api.ErrShape},
		{"33 equal places", make([]api.Place, 33), api.ErrShape},
		{"twice the same place", places(0, 0, 0, 0, 0, 0), api.ErrTwice},
		{"twice the same place in the end", places(0, 0, 0, 1, 2, 3, 1, 2, 3), api.ErrTwice},
		{"the same place ahead of one far away", places(0, 0, 0, 0, 0, 0, 0, 0, 100001), api.ErrTwice},
		{"a place far away ahead of the same one", places(100001, 0, 0, 100001, 0, 0), api.ErrRange},
		{"a place far away, twice, behind another one", places(0, 0, 0, 0, -100001, 0, 0, -100001, 0), api.ErrRange},
		{"the last place of all", places(0, 0, 0, 0, 0, math.MaxInt), api.ErrRange},
		{"the first place of all", places(math.MinInt, math.MinInt, math.MinInt, 0, 0, 0), api.ErrRange},
	}
	for _, n := range []int{100001, -100001} {
		l = append(l,
			wrongLine{"X", places(0, 0, 0, n, 0, 0), api.ErrRange},
			wrongLine{"Y", places(0, n, 0, 0, 0, 0), api.ErrRange},
			wrongLine{"Z", places(0, 0, 0, 1, 1, 1, 0, 0, n), api.ErrRange},
		)
	}
	return l
}

// P4.1: the errors of lines, in their order, beside zero values.
func TestWrongLines(t *testing.T) {
	for _, row := range wrongLines() {
		want(t, row.name, rope.CheckLine(row.l), row.e)
		length, e := rope.Length(row.l)
		want(t, row.name+": Length", []any{length, e}, []any{api.Span{}, row.e})
		for _, i := range []int{-1, 0, 1} {
			turn, e := rope.Turn(row.l, i)
			want(t, row.name+": Turn", []any{turn, e}, []any{api.Rat(""), row.e})
		}
		for _, friction := range [][]api.Point{friction(), nil} {
			drag, e := rope.Drag(row.l, friction)
			want(t, row.name+": Drag", []any{drag, e}, []any{api.Rat(""), row.e})
		}
	}
}

// P4.1: lines without errors.
func TestCheckLine(t *testing.T) {
	for name, l := range map[string][]api.Place{
		"of the chapter":             around(),
		"two places":                 places(0, 0, 0, 0, 0, 1),
		"32 places":                  ladder(32),
		"there and back":             places(0, 0, 0, 1, 0, 0, 0, 0, 0, 1, 0, 0),
		"as far away as places are":  places(100000, -100000, 100000, -100000, 100000, -100000),
		"places in one coordinate":   places(7, 0, 0, 7, 1, 0, 7, 1, 1),
		"a place, and its opposite":  places(1, -2, 3, -1, 2, -3),
		"coordinates that are moved": places(1, 2, 3, 3, 1, 2, 2, 3, 1),
	} {
		want(t, name, rope.CheckLine(l), api.OK)
	}
}

// P4.1: Length.
func TestLength(t *testing.T) {
	for _, row := range []struct {
		name   string
		l      []api.Place
		length api.Span
	}{
		{"of the chapter", around(), only("10000")},
		{"a diagonal", places(0, 0, 0, 1, 1, 0), span("707/500", "283/200")},
		{"two diagonals, each rounded", places(0, 0, 0, 1, 1, 0, 2, 2, 0), span("707/250", "283/100")},
		{"a diagonal, there and back", places(0, 0, 0, 1, 1, 0, 0, 0, 0), span("707/250", "283/100")},
		{"a diagonal and a whole step", places(0, 0, 0, 1, 1, 0, 1, 1, 5), span("3207/500", "1283/200")},
		{"all coordinates", places(1, 2, 3, 3, 5, 9), only("7")},
		{"the longest line of two places", places(-100000, -100000, -100000, 100000, 100000, 100000), span("346410161/1000", "173205081/500")},
		{"31 steps", ladder(32), only("310")},
	} {
		length, e := rope.Length(row.l)
		want(t, row.name, []any{length, e}, []any{row.length, api.OK})
	}
}

// P4.1: Turn.
func TestTurn(t *testing.T) {
	for _, row := range []struct {
		name string
		l    []api.Place
		i    int
		turn api.Rat
		e    api.Errno
	}{
		{"the first one of the chapter", around(), 1, "0", api.OK},
		{"the second one of the chapter", around(), 2, "0", api.OK},
		{"straight on", places(0, 0, 0, 1, 2, 3, 3, 6, 9), 1, "1", api.OK},
		{"straight back", places(0, 0, 0, 1, 2, 3, 0, 0, 0), 1, "-1", api.OK},
		{"back, and further", places(0, 0, 0, 1, 2, 3, -5, -10, -15), 1, "-1", api.OK},
		{"45 degrees", places(0, 0, 0, 5, 0, 0, 7, 2, 0), 1, "1/2", api.OK},
		{"135 degrees", places(0, 0, 0, 5, 0, 0, 4, 0, 1), 1, "-1/2", api.OK},
		{"60 degrees", places(0, 0, 0, 1, 1, 0, 1, 2, 1), 1, "1/4", api.OK},
		{"120 degrees", places(0, 0, 0, 1, 1, 0, 1, 0, 1), 1, "-1/4", api.OK},
		{"a place behind it", places(0, 0, 0, 1, 0, 0, 1, 1, 0, 2, 2, 0), 2, "1/2", api.OK},
		{"no right angle", places(0, 0, 0, 3, 1, 0, 3, 2, 0), 1, "1/10", api.OK},
		{"as far away as places are", places(-100000, -100000, -100000, 100000, 100000, 100000, -100000, -100000, 100000), 1, "-2/3", api.OK},
		{"straight back as far as places are", places(-100000, -100000, -100000, 100000, 100000, 100000, -100000, -100000, -100000), 1, "-1", api.OK},
		{"the first place", around(), 0, "", api.ErrUnknown},
		{"the last place", around(), 3, "", api.ErrUnknown},
		{"behind the last place", around(), 4, "", api.ErrUnknown},
		{"in front of the first place", around(), -1, "", api.ErrUnknown},
		{"the last number", around(), math.MaxInt, "", api.ErrUnknown},
		{"the first number", around(), math.MinInt, "", api.ErrUnknown},
		{"no inner place", places(0, 0, 0, 0, 0, 1), 1, "", api.ErrUnknown},
		{"no inner place at all", places(0, 0, 0, 0, 0, 1), 0, "", api.ErrUnknown},
		{"the first one of 32", ladder(32), 1, "1", api.OK},
		{"the last one of 32", ladder(32), 30, "1", api.OK},
		{"behind the last one of 32", ladder(32), 31, "", api.ErrUnknown},
	} {
		turn, e := rope.Turn(row.l, row.i)
		want(t, row.name, []any{turn, e}, []any{row.turn, row.e})
	}
}

type wrongFriction struct {
	name string
	t    []api.Point
	e    api.Errno
}

func wrongFrictions() []wrongFriction {
	many := make([]api.Point, 65)
	return []wrongFriction{
		{"no breakpoint", nil, api.ErrEmpty},
		{"65 breakpoints", many, api.ErrMany},
		{"no number", table("", "1"), api.ErrForm},
		{"no number as Y", table("0", "2/2"), api.ErrForm},
		{"a large number", table("0", nines(601)), api.ErrLarge},
		{"the same X", table("0", "2", "0", "1"), api.ErrOrder},
		{"a lower X", table("0", "2", "-1", "1"), api.ErrOrder},
		{"below 1", table("0", "1/2"), api.ErrRange},
		{"just below 1", table("0", nines(600)+"/"+power(599)+"0"), api.ErrLarge},
		{"a little below 1", table("0", nines(599)+"/"+power(599)), api.ErrRange},
		{"0", table("0", "0"), api.ErrRange},
		{"below 0", table("-1", "2", "0", "-2"), api.ErrRange},
		{"below 1 in the end", table("-1", "2", "0", "1", "1", "99/100"), api.ErrRange},
		{"rising", table("-1", "1", "1", "2"), api.ErrOrder},
		{"rising a little", table("-1", "3", "0", "2", "1", "2001/1000"), api.ErrOrder},
		{"rising from below 1", table("-1", "1/2", "1", "2"), api.ErrRange},
		{"rising ahead of what is below 1", table("-1", "1", "0", "2", "1", "1/2"), api.ErrOrder},
		{"below 1 ahead of what rises", table("-1", "1", "0", "1/2", "1", "2"), api.ErrRange},
		{"below 1 ahead of what is no number", table("0", "1/2", "1", "x"), api.ErrForm},
		{"rising ahead of a large number", table("0", "1", "1", "2", nines(601), "1"), api.ErrLarge},
		{"below 1 ahead of X that falls", table("0", "1/2", "-1", "1/2"), api.ErrOrder},
	}
}

// P4.1: the errors of frictions, in their order, beside zero values.
func TestWrongFrictions(t *testing.T) {
	for _, row := range wrongFrictions() {
		want(t, row.name, rope.CheckFriction(row.t), row.e)
		for _, l := range [][]api.Place{around(), places(0, 0, 0, 0, 0, 1)} {
			drag, e := rope.Drag(l, row.t)
			want(t, row.name+": Drag", []any{drag, e}, []any{api.Rat(""), row.e})
		}
	}
}

// P4.1: frictions without errors.
func TestCheckFriction(t *testing.T) {
	long := table()
	for i := range 64 {
		long = append(long, api.Point{X: textOf(big.NewRat(int64(i), 7)), Y: textOf(big.NewRat(int64(200-i), 100))})
	}
	for name, f := range map[string][]api.Point{
		"of the chapter":     friction(),
		"one breakpoint":     table("0", "1"),
		"even ones":          table("-5", "2", "0", "2", "1/3", "2"),
		"64 breakpoints":     long,
		"long numbers":       table("-"+nines(600), nines(600), nines(600), "1"),
		"just above 1":       table("0", power(599)+"/"+nines(599)),
		"far from all turns": table("100", "3", "200", "2"),
	} {
		want(t, name, rope.CheckFriction(f), api.OK)
	}
}

// P4.1: Drag.
func TestDrag(t *testing.T) {
	diagonal := places(0, 0, 0, 5, 0, 0, 7, 2, 0)
	for _, row := range []struct {
		name string
		l    []api.Place
		t    []api.Point
		drag api.Rat
		e    api.Errno
	}{
		{"of the chapter", around(), friction(), "9/4", api.OK},
		{"without inner places", places(0, 0, 0, 0, 0, 1), friction(), "1", api.OK},
		{"without inner places, by a friction of 2", places(0, 0, 0, 0, 0, 1), table("0", "2"), "1", api.OK},
		{"straight on", places(0, 0, 0, 0, 0, 1, 0, 0, 2), friction(), "1", api.OK},
		{"straight back", places(0, 0, 0, 0, 0, 1, 0, 0, 0), friction(), "2", api.OK},
		{"between two breakpoints", diagonal, friction(), "5/4", api.OK},
		{"in front of all breakpoints", diagonal, table("5", "3", "6", "2"), "3", api.OK},
		{"behind all breakpoints", diagonal, table("-6", "3", "-5", "2"), "2", api.OK},
		{"30 inner places", ladder(32), table("0", "2"), "1073741824", api.OK},
		{"one long number", diagonal, table("0", nines(600)), nines(600), api.OK},
		{"the product of two long numbers", around(), table("0", power(300)), "", api.ErrLarge},
		{"the product of two numbers that are not as long", around(), table("0", power(299)), power(598), api.OK},
		{"a long denominator", around(), table("0", power(301)+"/"+nines(301)), "", api.ErrLarge},
	} {
		drag, e := rope.Drag(row.l, row.t)
		want(t, row.name, []any{drag, e}, []any{row.drag, row.e})
	}
}

// cancelling returns a line and a friction of which one value has more than MaxDigits digits, and the drag 20000.
func cancelling() ([]api.Place, []api.Point) {
	// The value at the turn 1/2 is x y / b c; those at -1 and -1/2 are 200 b / x and 100 c / y.
	b, c := tenTo(400, 1), tenTo(400, 3)
	x := new(big.Int).Add(new(big.Int).Lsh(b, 1), big.NewInt(1))
	y := new(big.Int).Add(new(big.Int).Lsh(c, 1), big.NewInt(1))
	twice := new(big.Int).Lsh(new(big.Int).Mul(x, y), 1)
	// P / b and Q / c are together twice the value if P c + Q b = 2 x y; the least P for which P / b is at least the value is taken.
	least := new(big.Int).Quo(new(big.Int).Mul(x, y), c)
	p := new(big.Int).Mul(twice, new(big.Int).ModInverse(c, b))
	p.Sub(p, least).Mod(p, b).Add(p, least)
	q := new(big.Int).Mul(p, c)
	q.Sub(twice, q).Quo(q, b)
	ratio := func(num, den *big.Int, factor int64) api.Rat {
		return textOf(new(big.Rat).SetFrac(new(big.Int).Mul(num, big.NewInt(factor)), den))
	}
	l := places(0, 0, 0, 2, 0, 0, 0, 0, 0, 1, 1, 0, 1, 2, 0)
	return l, table("-1", ratio(b, x, 200), "-1/2", ratio(c, y, 100), "0", ratio(p, b, 1), "1", ratio(q, c, 1))
}

// P4.1: a value on the way that is too large is no error.
func TestDragOverLargeValues(t *testing.T) {
	l, f := cancelling()
	var turns []api.Rat
	for i := 1; i < len(l)-1; i++ {
		turn, _ := rope.Turn(l, i)
		turns = append(turns, turn)
	}
	slices.Sort(turns)
	want(t, "the turns", turns, []api.Rat{"-1", "-1/2", "1/2"})
	want(t, "CheckFriction", rope.CheckFriction(f), api.OK)
	_, e := number.Value(f, "1/2")
	want(t, "Value", e, api.ErrLarge)
	drag, e := rope.Drag(l, f)
	want(t, "Drag", []any{drag, e}, []any{api.Rat("20000"), api.OK})
}

// turnOf returns a turn, as the chapter has it.
func turnOf(a, b, c api.Place) *big.Rat {
	u, v := place(b.X-a.X, b.Y-a.Y, b.Z-a.Z), place(c.X-b.X, c.Y-b.Y, c.Z-b.Z)
	dot := func(a, b api.Place) *big.Int { return big.NewInt(int64(a.X*b.X + a.Y*b.Y + a.Z*b.Z)) }
	product := dot(u, v)
	square := new(big.Int).Mul(product, product)
	if product.Sign() < 0 {
		square.Neg(square)
	}
	return new(big.Rat).SetFrac(square, new(big.Int).Mul(dot(u, u), dot(v, v)))
}

// P4.1: lines at random.
func TestLinesAtRandom(t *testing.T) {
	r := rand.New(rand.NewSource(1))
	for range 500 {
		l := randomLine(r, 2+r.Intn(9), []int{2, 10, 5000, 100000}[r.Intn(4)])
		f := randomFriction(r)
		given, givenFriction := slices.Clone(l), slices.Clone(f)
		low, high, drag := new(big.Rat), new(big.Rat), wholeRat(1)
		for i := 1; i < len(l); i++ {
			x, y, z := l[i].X-l[i-1].X, l[i].Y-l[i-1].Y, l[i].Z-l[i-1].Z
			down, up := root(wholeRat(x*x + y*y + z*z))
			low, high = plus(low, down), plus(high, up)
			if i+1 == len(l) {
				continue
			}
			wanted := textOf(turnOf(l[i-1], l[i], l[i+1]))
			turn, e := rope.Turn(l, i)
			want(t, "Turn", []any{turn, e}, []any{wanted, api.OK})
			value, _ := number.Value(f, turn)
			drag = times(drag, bigRat(value))
		}
		length, e := rope.Length(l)
		want(t, "Length", []any{length, e}, []any{span(textOf(low), textOf(high)), api.OK})
		product, e := rope.Drag(l, f)
		want(t, "Drag", []any{product, e}, []any{textOf(drag), api.OK})
		want(t, "the arguments stay", []any{l, f}, []any{given, givenFriction})
	}
}
