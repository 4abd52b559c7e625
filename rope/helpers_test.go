package rope_test

import (
	"math/big"
	"math/rand"
	"reflect"
	"strings"
	"testing"

	"crux/api"
	"crux/rope"
)

// want reports a result that is not the wanted one. Nil and empty lists are equal.
func want(t *testing.T, what string, got, wanted any) {
	t.Helper()
	x, y := reflect.ValueOf(got), reflect.ValueOf(wanted)
	if x.Kind() == reflect.Slice && x.Type() == y.Type() && x.Len() == 0 && y.Len() == 0 {
		return
	}
	if !reflect.DeepEqual(got, wanted) {
		t.Errorf("%s: got %v, want %v", what, got, wanted)
	}
}

func place(x, y, z int) api.Place {
	return api.Place{X: x, Y: y, Z: z}
}

// places returns places with these coordinates, three for each one.
func places(coordinates ...int) []api.Place {
	var l []api.Place
	for i := 0; i+2 < len(coordinates); i += 3 {
		l = append(l, place(coordinates[i], coordinates[i+1], coordinates[i+2]))
	}
	return l
}

func span(low, high api.Rat) api.Span {
	return api.Span{Low: low, High: high}
}

// only returns the span of one number.
func only(a api.Rat) api.Span {
	return span(a, a)
}

// table returns a table with these numbers, X and Y of each breakpoint.
func table(numbers ...api.Rat) []api.Point {
	var t []api.Point
	for i := 0; i+1 < len(numbers); i += 2 {
		t = append(t, api.Point{X: numbers[i], Y: numbers[i+1]})
	}
	return t
}

// nines returns the text of n digits 9.
func nines(n int) api.Rat {
	return api.Rat(strings.Repeat("9", n))
}

// power returns the text of 10 to the power of n, which has n + 1 digits.
func power(n int) api.Rat {
	return api.Rat("1" + strings.Repeat("0", n))
}

// tenTo returns 10 to the power of n and some more.
func tenTo(n int, more int64) *big.Int {
	x := new(big.Int).Exp(big.NewInt(10), big.NewInt(int64(n)), nil)
	return x.Add(x, big.NewInt(more))
}

// bigRat returns the number with a text.
func bigRat(a api.Rat) *big.Rat {
	x, ok := new(big.Rat).SetString(string(a))
	if !ok {
		panic("no number: " + a)
	}
	return x
}

func textOf(a *big.Rat) api.Rat {
	return api.Rat(a.RatString())
}

func wholeRat(n int) *big.Rat {
	return big.NewRat(int64(n), 1)
}

func plus(l ...*big.Rat) *big.Rat {
	sum := new(big.Rat)
	for _, x := range l {
		sum.Add(sum, x)
	}
	return sum
}

func minus(a, b *big.Rat) *big.Rat {
	return new(big.Rat).Sub(a, b)
}

func times(l ...*big.Rat) *big.Rat {
	product := wholeRat(1)
	for _, x := range l {
		product.Mul(product, x)
	}
	return product
}

func over(a, b *big.Rat) *big.Rat {
	return new(big.Rat).Quo(a, b)
}

// root returns the ends of number.Root, also for numbers that are too large for it.
func root(x *big.Rat) (*big.Rat, *big.Rat) {
	exact := new(big.Rat).SetFrac(new(big.Int).Sqrt(x.Num()), new(big.Int).Sqrt(x.Denom()))
	if times(exact, exact).Cmp(x) == 0 {
		return exact, exact
	}
	parts := times(x, wholeRat(1000000))
	n := new(big.Int).Sqrt(new(big.Int).Quo(parts.Num(), parts.Denom()))
	low := new(big.Rat).SetFrac(n, big.NewInt(1000))
	return low, plus(low, big.NewRat(1, 1000))
}

// fits reports whether a number has at most MaxDigits digits in its numerator and its denominator.
func fits(a *big.Rat) bool {
	return len(new(big.Int).Abs(a.Num()).String()) <= api.MaxDigits && len(a.Denom().String()) <= api.MaxDigits
}

// result returns a number as the text of a result, or ErrLarge.
func result(a *big.Rat) (api.Rat, api.Errno) {
	if !fits(a) {
		return "", api.ErrLarge
	}
	return textOf(a), api.OK
}

// resultSpan does it for a span.
func resultSpan(low, high *big.Rat) (api.Span, api.Errno) {
	if !fits(low) || !fits(high) {
		return api.Span{}, api.ErrLarge
	}
	return span(textOf(low), textOf(high)), api.OK
}

// contains reports whether a number is in a span.
func contains(s api.Span, x *big.Rat) bool {
	return bigRat(s.Low).Cmp(x) <= 0 && x.Cmp(bigRat(s.High)) <= 0
}

func randomPlace(r *rand.Rand, size int) api.Place {
	n := func() int { return r.Intn(2*size+1) - size }
	return place(n(), n(), n())
}

// randomLine returns a line of n places whose coordinates are up to a size.
func randomLine(r *rand.Rand, n, size int) []api.Place {
	for {
		var l []api.Place
		for range n {
			l = append(l, randomPlace(r, size))
		}
		if rope.CheckLine(l) == api.OK {
			return l
		}
	}
}

// randomFriction returns a friction of up to 5 breakpoints.
func randomFriction(r *rand.Rand) []api.Point {
	x, y := big.NewRat(-1, 1), big.NewRat(int64(4+r.Intn(9)), 2)
	var t []api.Point
	for range 1 + r.Intn(5) {
		t = append(t, api.Point{X: textOf(x), Y: textOf(y)})
		x = plus(x, big.NewRat(int64(1+r.Intn(10)), 10))
		y = plus(wholeRat(1), times(minus(y, wholeRat(1)), big.NewRat(int64(r.Intn(5)), 4)))
	}
	return t
}

// randomRat returns a number above 0 that is at most a greatest one. Its text may be long, and often it is short.
func randomRat(r *rand.Rand, greatest int) *big.Rat {
	den := big.NewInt(int64(1 + r.Intn(4)))
	switch r.Intn(8) {
	case 0:
		den = tenTo(r.Intn(300), int64(r.Intn(9)))
	case 1:
		den = tenTo(590+r.Intn(9), int64(r.Intn(9)))
	}
	limit := new(big.Int).Mul(den, big.NewInt(int64(greatest)))
	x := new(big.Rat).SetFrac(limit.Add(new(big.Int).Rand(r, limit), big.NewInt(1)), den)
	if x.Cmp(wholeRat(greatest)) > 0 {
		x.Sub(x, wholeRat(greatest))
	}
	if !fits(x) {
		return wholeRat(1)
	}
	return x
}

// randomSpan returns a span of such numbers; often it has only one.
func randomSpan(r *rand.Rand, greatest int) api.Span {
	x, y := randomRat(r, greatest), randomRat(r, greatest)
	if r.Intn(2) == 0 {
		y = x
	}
	if x.Cmp(y) > 0 {
		x, y = y, x
	}
	return span(textOf(x), textOf(y))
}

func randomFall(r *rand.Rand) rope.Fall {
	return rope.Fall{
		Mass:    randomSpan(r, 1000),
		Modulus: randomSpan(r, 10000000),
		Rope:    1 + r.Intn(api.MaxPlace),
		Above:   r.Intn(3) * r.Intn(5000),
		Slack:   r.Intn(2) * r.Intn(1000),
	}
}

// randomAnchor returns an anchor of n strands whose load has these shares, if the coordinates of the load are whole.
func randomAnchor(r *rand.Rand, size int, shares ...int) rope.Anchor {
	for {
		a := rope.Anchor{}
		for _, share := range shares {
			s := randomPlace(r, size)
			a.Strands = append(a.Strands, s)
			a.Load = place(a.Load.X-share*s.X, a.Load.Y-share*s.Y, a.Load.Z-share*s.Z)
		}
		if rope.CheckAnchor(a) == api.OK {
			return a
		}
	}
}
