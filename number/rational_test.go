package number

import (
	"math"
	"math/big"
	"math/rand"
	"strings"
	"testing"

	"crux/api"
)

// P1.1: names.
func TestNames(t *testing.T) {
	for _, s := range []string{"a", "Z", "ann", "a_1", "A__", "x9", strings.Repeat("a", 24)} {
		want(t, "IsName of "+s, IsName(s), true)
	}
	for _, s := range []string{"", "_", "_a", "1", "1a", "a b", " a", "a ", "a-b", "a.b", "ä", "aé", "a\xff", "\xffa", "a\x00", "a\n", "[", "`", "@", "{", "a/", "a:", strings.Repeat("a", 25)} {
		want(t, "IsName of "+s, IsName(s), false)
	}
	for c := range 256 {
		letter := c >= 'A' && c <= 'Z' || c >= 'a' && c <= 'z'
		want(t, "IsName of a byte", IsName(string([]byte{byte(c)})), letter)
		want(t, "IsName of a second byte", IsName("a"+string([]byte{byte(c)})), letter || c >= '0' && c <= '9' || c == '_')
	}
}

// P1.1: the error of a number.
func TestCheck(t *testing.T) {
	for _, a := range []api.Rat{"0", "1", "-1", "-7", "10", "3/2", "-3/2", "1/10", nines(600), "-" + nines(600), "1/" + nines(600), "-" + nines(600) + "/" + power(599), power(599) + "/" + nines(600)} {
		want(t, "Check of "+string(a), Check(a), api.OK)
	}
	for a, e := range wrongNumbers() {
		want(t, "Check of "+string(a), Check(a), e)
	}
}

// P1.1: errors of the arguments, from left to right, in front of those of the function.
func TestNumberErrors(t *testing.T) {
	type binary func(a, b api.Rat) (api.Rat, api.Errno)
	for name, f := range map[string]binary{"Add": Add, "Sub": Sub, "Mul": Mul, "Div": Div} {
		for a, wanted := range wrongNumbers() {
			x, e := f(a, "0")
			want(t, name+" of a wrong number", e, wanted)
			want(t, name+" beside an error", x, api.Rat(""))
			_, e = f("1", a)
			want(t, name+" by a wrong number", e, wanted)
		}
		_, e := f("2/4", nines(601))
		want(t, name+" of two wrong numbers", e, api.ErrForm)
		_, e = f(nines(601), "2/4")
		want(t, name+" of two wrong numbers", e, api.ErrLarge)
	}
	for a, wanted := range wrongNumbers() {
		n, e := Order(a, "1")
		want(t, "Order of a wrong number", e, wanted)
		want(t, "Order beside an error", n, 0)
		_, e = Order("1", a)
		want(t, "Order by a wrong number", e, wanted)
		x, e := Floor(a)
		want(t, "Floor of a wrong number", e, wanted)
		want(t, "Floor beside an error", x, api.Rat(""))
	}
	_, e := Order(nines(601), "")
	want(t, "Order of two wrong numbers", e, api.ErrLarge)
	for _, a := range []api.Rat{"0", "1", "-3/2"} {
		x, e := Div(a, "0")
		want(t, "Div by 0", e, api.ErrZero)
		want(t, "Div by 0", x, api.Rat(""))
	}
}

// P1.1: quotients of integers.
func TestOf(t *testing.T) {
	for _, row := range []struct {
		num, den int
		wanted   api.Rat
	}{
		{6, -4, "-3/2"}, {6, 4, "3/2"}, {-6, -4, "3/2"}, {-6, 4, "-3/2"}, {0, 5, "0"}, {0, -5, "0"}, {8, 4, "2"}, {8, -4, "-2"}, {1, 3, "1/3"},
		{math.MinInt64, -1, "9223372036854775808"}, {math.MinInt64, 1, "-9223372036854775808"}, {math.MinInt64, math.MinInt64, "1"},
		{1, math.MinInt64, "-1/9223372036854775808"}, {math.MaxInt64, math.MinInt64, "-9223372036854775807/9223372036854775808"},
	} {
		a, e := Of(row.num, row.den)
		want(t, "Of", a, row.wanted)
		want(t, "Of", e, api.OK)
	}
	for _, num := range []int{0, 1, math.MinInt64} {
		a, e := Of(num, 0)
		want(t, "Of by 0", a, api.Rat(""))
		want(t, "Of by 0", e, api.ErrZero)
	}
}

// P1.1: the results of sums, differences, products, quotients, comparisons and floors.
func TestArithmetic(t *testing.T) {
	r := rand.New(rand.NewSource(11))
	for range 1500 {
		x, y := randomRat(r, 290), randomRat(r, 290)
		a, b := textOf(x), textOf(y)
		result(t, "Add", Add, a, b, new(big.Rat).Add(x, y))
		result(t, "Sub", Sub, a, b, new(big.Rat).Sub(x, y))
		result(t, "Mul", Mul, a, b, new(big.Rat).Mul(x, y))
		if y.Sign() != 0 {
			result(t, "Div", Div, a, b, new(big.Rat).Quo(x, y))
		}
		n, e := Order(a, b)
		want(t, "Order", n, x.Cmp(y))
		want(t, "Order", e, api.OK)
		n, _ = Order(a, a)
		want(t, "Order of the same", n, 0)
		floor, e := Floor(a)
		want(t, "Floor", floor, api.Rat(new(big.Int).Div(x.Num(), x.Denom()).String()))
		want(t, "Floor", e, api.OK)
	}
}

func result(t *testing.T, name string, f func(a, b api.Rat) (api.Rat, api.Errno), a, b api.Rat, wanted *big.Rat) {
	t.Helper()
	x, e := f(a, b)
	want(t, name+" of "+string(a)+" and "+string(b), x, textOf(wanted))
	want(t, name, e, api.OK)
	want(t, name+": Check of the result", Check(x), api.OK)
}

// P1.1: examples and neighbours.
func TestSmallArithmetic(t *testing.T) {
	for _, row := range []struct {
		a, b                 api.Rat
		sum, gap, times, div api.Rat
		order                int
	}{
		{"1/2", "1/3", "5/6", "1/6", "1/6", "3/2", 1},
		{"2/3", "-4/3", "-2/3", "2", "-8/9", "-1/2", 1},
		{"-7", "-7", "-14", "0", "49", "1", 0},
		{"0", "5/2", "5/2", "-5/2", "0", "0", -1},
		{"1/2", "-1/2", "0", "1", "-1/4", "-1", 1},
		{"-1/3", "-1/2", "-5/6", "1/6", "1/6", "2/3", 1},
	} {
		x, _ := Add(row.a, row.b)
		want(t, "Add", x, row.sum)
		x, _ = Sub(row.a, row.b)
		want(t, "Sub", x, row.gap)
		x, _ = Mul(row.a, row.b)
		want(t, "Mul", x, row.times)
		x, _ = Div(row.a, row.b)
		want(t, "Div", x, row.div)
		n, _ := Order(row.a, row.b)
		want(t, "Order", n, row.order)
	}
	for a, wanted := range map[api.Rat]api.Rat{"-3/2": "-2", "3/2": "1", "-2": "-2", "2": "2", "0": "0", "1/9": "0", "-1/9": "-1", nines(600): nines(600), "-" + nines(600): "-" + nines(600)} {
		x, e := Floor(a)
		want(t, "Floor of "+string(a), x, wanted)
		want(t, "Floor of "+string(a), e, api.OK)
	}
}

// P1.1: results of 600 and of 601 digits.
func TestLargeResults(t *testing.T) {
	type binary func(a, b api.Rat) (api.Rat, api.Errno)
	for _, row := range []struct {
		name   string
		f      binary
		a, b   api.Rat
		wanted api.Rat
		e      api.Errno
	}{
		{"Add", Add, nines(600), "0", nines(600), api.OK},
		{"Add", Add, nines(600), "1", "", api.ErrLarge},
		{"Add", Add, "-" + nines(600), "-1", "", api.ErrLarge},
		{"Add", Add, "-" + nines(600), "1", "-" + nines(599) + "8", api.OK},
		{"Add", Add, nines(600), "1/2", "", api.ErrLarge},
		{"Sub", Sub, "-" + nines(600), "1", "", api.ErrLarge},
		{"Sub", Sub, nines(600), nines(600), "0", api.OK},
		{"Mul", Mul, power(300), power(299), power(599), api.OK},
		{"Mul", Mul, power(300), "-" + power(300), "", api.ErrLarge},
		{"Mul", Mul, power(599), "1/" + power(599), "1", api.OK},
		{"Mul", Mul, nines(600), "0", "0", api.OK},
		{"Mul", Mul, "1/" + power(300), "1/" + power(299), "1/" + power(599), api.OK},
		{"Mul", Mul, "1/" + power(300), "1/" + power(300), "", api.ErrLarge},
		{"Div", Div, "1", nines(600), "1/" + nines(600), api.OK},
		{"Div", Div, "1/" + power(300), power(300), "", api.ErrLarge},
		{"Div", Div, nines(600), nines(600), "1", api.OK},
		{"Div", Div, power(300), "1/" + power(300), "", api.ErrLarge},
		{"Div", Div, nines(600), "0", "", api.ErrZero},
	} {
		x, e := row.f(row.a, row.b)
		want(t, row.name+" of large numbers", x, row.wanted)
		want(t, row.name+" of large numbers", e, row.e)
	}
	n, e := Order(nines(600)+"/"+power(599), power(599)+"/"+nines(600))
	want(t, "Order of large numbers", n, 1)
	want(t, "Order of large numbers", e, api.OK)
	x, e := Floor("-" + nines(600) + "/" + power(599))
	want(t, "Floor of a large number", x, api.Rat("-10"))
	want(t, "Floor of a large number", e, api.OK)
}
