package number

import (
	"math/big"
	"math/rand"
	"testing"

	"crux/api"
)

type spanOperation func(a, b api.Span) (api.Span, api.Errno)

func spanOperations() map[string]spanOperation {
	return map[string]spanOperation{"Plus": Plus, "Minus": Minus, "Times": Times, "Over": Over}
}

// P1.2: the error of a span, that of its lower end first.
func TestCheckSpan(t *testing.T) {
	for _, row := range []struct {
		s api.Span
		e api.Errno
	}{
		{span("1", "2"), api.OK},
		{span("2", "2"), api.OK},
		{span("-1/2", "-1/3"), api.OK},
		{span("-"+nines(600), nines(600)), api.OK},
		{span("2", "1"), api.ErrOrder},
		{span("-1/3", "-1/2"), api.ErrOrder},
		{span("", ""), api.ErrForm},
		{span("", nines(601)), api.ErrForm},
		{span(nines(601), ""), api.ErrLarge},
		{span("2", "2/4"), api.ErrForm},
		{span("2", nines(601)), api.ErrLarge},
	} {
		want(t, "CheckSpan", CheckSpan(row.s), row.e)
	}
	for a, e := range wrongNumbers() {
		want(t, "CheckSpan with a wrong lower end", CheckSpan(span(a, "0")), e)
		want(t, "CheckSpan with a wrong upper end", CheckSpan(span("0", a)), e)
	}
}

// P1.2: the errors of arguments, from left to right, and that of a divisor with 0.
func TestSpanErrors(t *testing.T) {
	for name, f := range spanOperations() {
		for _, row := range []struct {
			a, b api.Span
			e    api.Errno
		}{
			{span("2", "1"), span("", "1"), api.ErrOrder},
			{span("1", "x"), span("2", "1"), api.ErrForm},
			{span("1", nines(601)), span("2", "1"), api.ErrLarge},
			{span("1", "2"), span("2", "1"), api.ErrOrder},
			{span("1", "2"), span("2", nines(601)), api.ErrLarge},
			{span("2", "1"), span("0", "0"), api.ErrOrder},
			{api.Span{}, api.Span{}, api.ErrForm},
		} {
			s, e := f(row.a, row.b)
			want(t, name+" of wrong spans", e, row.e)
			want(t, name+" beside an error", s, api.Span{})
		}
	}
	for _, divisor := range []api.Span{span("0", "0"), span("0", "1"), span("-1", "0"), span("-1", "1"), span("-1/1000", nines(600))} {
		s, e := Over(span("1", "2"), divisor)
		want(t, "Over with 0 in the divisor", e, api.ErrZero)
		want(t, "Over with 0 in the divisor", s, api.Span{})
	}
}

// P1.2: examples, and signs in every combination.
func TestSpanResults(t *testing.T) {
	for _, row := range []struct {
		a, b, sum, gap, times, quotient api.Span
	}{
		{span("1", "2"), span("-1", "3"), span("0", "5"), span("-2", "3"), span("-2", "6"), api.Span{}},
		{span("1", "2"), span("-4", "-2"), span("-3", "0"), span("3", "6"), span("-8", "-2"), span("-1", "-1/4")},
		{span("1", "2"), span("2", "4"), span("3", "6"), span("-3", "0"), span("2", "8"), span("1/4", "1")},
		{span("-2", "-1"), span("2", "4"), span("0", "3"), span("-6", "-3"), span("-8", "-2"), span("-1", "-1/4")},
		{span("-2", "-1"), span("-4", "-2"), span("-6", "-3"), span("0", "3"), span("2", "8"), span("1/4", "1")},
		{span("-3", "2"), span("1/2", "1/2"), span("-5/2", "5/2"), span("-7/2", "3/2"), span("-3/2", "1"), span("-6", "4")},
		{span("-3", "2"), span("-5", "7"), span("-8", "9"), span("-10", "7"), span("-21", "15"), api.Span{}},
		{span("0", "0"), span("1", "3"), span("1", "3"), span("-3", "-1"), span("0", "0"), span("0", "0")},
	} {
		s, e := Plus(row.a, row.b)
		want(t, "Plus", s, row.sum)
		want(t, "Plus", e, api.OK)
		s, e = Minus(row.a, row.b)
		want(t, "Minus", s, row.gap)
		want(t, "Minus", e, api.OK)
		s, e = Times(row.a, row.b)
		want(t, "Times", s, row.times)
		want(t, "Times", e, api.OK)
		s, _ = Over(row.a, row.b)
		want(t, "Over", s, row.quotient)
	}
}

// P1.2: both ends of results are reached, and none is passed.
func TestRandomSpans(t *testing.T) {
	r := rand.New(rand.NewSource(12))
	plain := map[string]func(x, y *big.Rat) *big.Rat{
		"Plus":  func(x, y *big.Rat) *big.Rat { return new(big.Rat).Add(x, y) },
		"Minus": func(x, y *big.Rat) *big.Rat { return new(big.Rat).Sub(x, y) },
		"Times": func(x, y *big.Rat) *big.Rat { return new(big.Rat).Mul(x, y) },
		"Over":  func(x, y *big.Rat) *big.Rat { return new(big.Rat).Quo(x, y) },
	}
	for range 400 {
		a, b := randomSpan(r, 100), randomSpan(r, 100)
		for name, f := range spanOperations() {
			if name == "Over" && bigRat(t, b.Low).Sign()*bigRat(t, b.High).Sign() <= 0 {
				continue
			}
			// These operations are monotonous in each number, so ends of results come from ends.
			var low, high *big.Rat
			for _, x := range []api.Rat{a.Low, a.High} {
				for _, y := range []api.Rat{b.Low, b.High} {
					z := plain[name](bigRat(t, x), bigRat(t, y))
					if low == nil || z.Cmp(low) < 0 {
						low = z
					}
					if high == nil || z.Cmp(high) > 0 {
						high = z
					}
				}
			}
			s, e := f(a, b)
			want(t, name, s, span(textOf(low), textOf(high)))
			want(t, name, e, api.OK)
		}
	}
}

// P1.2: results whose lower, or upper, end has 600 or 601 digits.
func TestLargeSpans(t *testing.T) {
	s, e := Plus(span("-1", nines(600)), span("-1", "0"))
	want(t, "Plus of 600 digits", s, span("-2", nines(600)))
	want(t, "Plus of 600 digits", e, api.OK)
	for name, f := range map[string]func() (api.Span, api.Errno){
		"Plus, upper end":  func() (api.Span, api.Errno) { return Plus(span("1", nines(600)), span("1", "1")) },
		"Plus, lower end":  func() (api.Span, api.Errno) { return Plus(span("-"+nines(600), "1"), span("-1", "1")) },
		"Minus, upper end": func() (api.Span, api.Errno) { return Minus(span("1", nines(600)), span("-1", "1")) },
		"Minus, lower end": func() (api.Span, api.Errno) { return Minus(span("-"+nines(600), "1"), span("-1", "1")) },
		"Times":            func() (api.Span, api.Errno) { return Times(span("0", power(300)), span("0", power(300))) },
		"Over":             func() (api.Span, api.Errno) { return Over(span("1", power(300)), span("1/"+power(300), "1")) },
	} {
		s, e := f()
		want(t, name, e, api.ErrLarge)
		want(t, name, s, api.Span{})
	}
}

// P1.2: roots of squares, of their neighbours, and of what is between.
func TestRoot(t *testing.T) {
	for _, row := range []struct {
		a api.Rat
		s api.Span
	}{
		{"0", span("0", "0")},
		{"1", span("1", "1")},
		{"2", span("707/500", "283/200")},
		{"9/4", span("3/2", "3/2")},
		{"1/3", span("577/1000", "289/500")},
		{"1/49", span("1/7", "1/7")},
		{"4/49", span("2/7", "2/7")},
		{"4/3", span("577/500", "231/200")}, // a square over none
		{"3/4", span("433/500", "867/1000")},
		{"8/9", span("471/500", "943/1000")},
		{"1/10000000", span("0", "1/1000")},
		{"1/1000000", span("1/1000", "1/1000")},
		{"1/1000001", span("0", "1/1000")},
		{"1/999999", span("1/1000", "1/500")},
		{"99980000", span("9998999/1000", "9999")},
		{"99980001", span("9999", "9999")},
		{"99980002", span("9999", "9999001/1000")},
	} {
		s, e := Root(row.a)
		want(t, "Root of "+string(row.a), s, row.s)
		want(t, "Root of "+string(row.a), e, api.OK)
	}
	for a, wanted := range wrongNumbers() {
		s, e := Root(a)
		want(t, "Root of a wrong number", e, wanted)
		want(t, "Root of a wrong number", s, api.Span{})
	}
	for _, a := range []api.Rat{"-1", "-9/4", "-1/" + nines(600)} {
		s, e := Root(a)
		want(t, "Root below 0", e, api.ErrRange)
		want(t, "Root below 0", s, api.Span{})
	}
}

// P1.2: roots of large squares and their neighbours.
func TestRandomRoots(t *testing.T) {
	r := rand.New(rand.NewSource(13))
	for range 400 {
		x := randomRat(r, 299)
		x.Abs(x)
		square := new(big.Rat).Mul(x, x)
		s, e := Root(textOf(square))
		want(t, "Root of a square", s, span(textOf(x), textOf(x)))
		want(t, "Root of a square", e, api.OK)
		for _, step := range []int64{-1, 1} {
			y := new(big.Rat).SetFrac(new(big.Int).Add(square.Num(), big.NewInt(step)), square.Denom())
			if y.Sign() >= 0 && fits(y) {
				checkRoot(t, y)
			}
		}
	}
	for _, a := range []api.Rat{nines(600), power(599), nines(600) + "/" + power(599), "1/" + nines(600), "2/" + nines(600)} {
		checkRoot(t, bigRat(t, a))
	}
}

// checkRoot compares Root with the definition.
func checkRoot(t *testing.T, x *big.Rat) {
	t.Helper()
	low, high := plainRoot(x)
	s, e := Root(textOf(x))
	want(t, "Root of "+x.RatString(), s, span(textOf(low), textOf(high)))
	want(t, "Root of "+x.RatString(), e, api.OK)
}

func plainRoot(x *big.Rat) (*big.Rat, *big.Rat) {
	num, den := new(big.Int).Sqrt(x.Num()), new(big.Int).Sqrt(x.Denom())
	y := new(big.Rat).SetFrac(num, den)
	if new(big.Rat).Mul(y, y).Cmp(x) == 0 {
		return y, y
	}
	n := new(big.Int).Mul(x.Num(), big.NewInt(1000000))
	n.Sqrt(n.Div(n, x.Denom()))
	thousand := big.NewInt(1000)
	return new(big.Rat).SetFrac(n, thousand), new(big.Rat).SetFrac(new(big.Int).Add(n, big.NewInt(1)), thousand)
}
