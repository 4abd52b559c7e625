package exact

import (
	"math/big"
	"math/rand"
	"testing"
)

// rats returns texts as numbers.
func rats(texts ...string) []Rat {
	var l []Rat
	for _, text := range texts {
		l = append(l, ParseRat(text))
	}
	return l
}

func spanOf(low, high string) Span {
	l := rats(low, high)
	return Span{Low: l[0], High: l[1]}
}

func sameSpan(t *testing.T, what string, got, wanted Span) {
	t.Helper()
	if got.Low.Compare(wanted.Low) != 0 || got.High.Compare(wanted.High) != 0 {
		t.Errorf("%s: got %v to %v, want %v to %v", what, got.Low, got.High, wanted.Low, wanted.High)
	}
}

func TestParseRat(t *testing.T) {
	r := rand.New(rand.NewSource(5))
	for range 500 {
		num, den := random(r, 30), random(r, 30)
		if den.Sign() == 0 {
			continue
		}
		wanted := new(big.Rat).SetFrac(bigOf(num), bigOf(den.Size()))
		rational(t, "with a slash", ParseRat(num.String()+"/"+den.Size().String()), wanted)
		rational(t, "of its text", ParseRat(wanted.RatString()), wanted)
		rational(t, "of an integer", ParseRat(num.String()), new(big.Rat).SetInt(bigOf(num)))
	}
}

func TestSpans(t *testing.T) {
	for _, row := range []struct {
		a, b, sum, difference, product Span
	}{
		{spanOf("1", "2"), spanOf("-1", "3"), spanOf("0", "5"), spanOf("-2", "3"), spanOf("-2", "6")},
		{spanOf("1", "2"), spanOf("-4", "-2"), spanOf("-3", "0"), spanOf("3", "6"), spanOf("-8", "-2")},
		{spanOf("-3", "2"), Only(ParseRat("1/2")), spanOf("-5/2", "5/2"), spanOf("-7/2", "3/2"), spanOf("-3/2", "1")},
	} {
		sameSpan(t, "Plus", row.a.Plus(row.b), row.sum)
		sameSpan(t, "Minus", row.a.Minus(row.b), row.difference)
		sameSpan(t, "Times", row.a.Times(row.b), row.product)
	}
	sameSpan(t, "Over", spanOf("1", "2").Over(spanOf("-4", "-2")), spanOf("-1", "-1/4"))
	sameSpan(t, "Over", spanOf("-1", "2").Over(spanOf("1/2", "4")), spanOf("-2", "4"))
}

func TestRoots(t *testing.T) {
	for text, wanted := range map[string]Span{
		"0":          spanOf("0", "0"),
		"9/4":        spanOf("3/2", "3/2"),
		"1/49":       spanOf("1/7", "1/7"),
		"2":          spanOf("1414/1000", "1415/1000"),
		"1/3":        spanOf("577/1000", "578/1000"),
		"4/3":        spanOf("1154/1000", "1155/1000"),
		"3/4":        spanOf("866/1000", "867/1000"),
		"1/10000000": spanOf("0", "1/1000"),
	} {
		sameSpan(t, "the root of "+text, Root(ParseRat(text)), wanted)
	}
	r := rand.New(rand.NewSource(6))
	for range 300 {
		x := Quotient(random(r, 20).Size(), Whole(1+r.Intn(1000)).Times(TwoTo(r.Intn(200))))
		sameSpan(t, "the root of a square", Root(x.Times(x)), Only(x))
		s := Root(x)
		low, high := s.Low.Times(s.Low), s.High.Times(s.High)
		if low.Compare(x) > 0 || high.Compare(x) < 0 || s.High.Minus(s.Low).Compare(ParseRat("1/1000")) > 0 {
			t.Errorf("the root of %v: got %v to %v", x, s.Low, s.High)
		}
	}
}

func TestTables(t *testing.T) {
	table := []Point{{ParseRat("0"), ParseRat("0")}, {ParseRat("10"), ParseRat("5")}, {ParseRat("20"), ParseRat("-1")}}
	for x, y := range map[string]string{"-1": "0", "0": "0", "4": "2", "1/3": "1/6", "10": "5", "15": "2", "20": "-1", "21": "-1"} {
		rational(t, "the value at "+x, Value(table, ParseRat(x)), ratOf(y))
		rational(t, "the value of one breakpoint", Value(table[1:2], ParseRat(x)), big.NewRat(5, 1))
	}
}

func ratOf(text string) *big.Rat {
	x, _ := new(big.Rat).SetString(text)
	return x
}
