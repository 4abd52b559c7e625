package exact

import (
	"math"
	"math/big"
	"math/rand"
	"testing"
)

// words returns numbers at which carries, borrows and guesses of quotients go wrong first: mixtures of zero, full and random words.
func words(r *rand.Rand, n int) nat {
	z := make(nat, n)
	for i := range z {
		switch r.Intn(5) {
		case 0:
			z[i] = 0
		case 1:
			z[i] = math.MaxUint64
		case 2:
			z[i] = 1 << 63
		case 3:
			z[i] = uint64(r.Intn(3))
		default:
			z[i] = r.Uint64()
		}
	}
	return trimmed(z)
}

func random(r *rand.Rand, n int) Int {
	return intOf(r.Intn(2) == 0, words(r, r.Intn(n+1)))
}

func bigOf(a Int) *big.Int {
	z := new(big.Int)
	for i := len(a.size) - 1; i >= 0; i-- {
		z.Lsh(z, 64).Or(z, new(big.Int).SetUint64(a.size[i]))
	}
	if a.negative {
		z.Neg(z)
	}
	return z
}

func same(t *testing.T, what string, got Int, wanted *big.Int) {
	t.Helper()
	if len(got.size) > 0 && got.size[len(got.size)-1] == 0 || len(got.size) == 0 && got.negative {
		t.Fatalf("%s: %v is not in its form", what, got)
	}
	if got.String() != wanted.String() {
		t.Fatalf("%s: got %v, want %v", what, got, wanted)
	}
}

func TestIntegers(t *testing.T) {
	r := rand.New(rand.NewSource(1))
	for range 3000 {
		a, b := random(r, 12), random(r, 8)
		x, y := bigOf(a), bigOf(b)
		same(t, "String", a, x)
		same(t, "Plus", a.Plus(b), new(big.Int).Add(x, y))
		same(t, "Minus", a.Minus(b), new(big.Int).Sub(x, y))
		same(t, "Times", a.Times(b), new(big.Int).Mul(x, y))
		same(t, "Root", a.Size().Root(), new(big.Int).Sqrt(new(big.Int).Abs(x)))
		same(t, "Parse", Parse(a.Size().String()), new(big.Int).Abs(x))
		if got, wanted := a.Compare(b), x.Cmp(y); got != wanted {
			t.Fatalf("Compare of %v and %v: got %d, want %d", a, b, got, wanted)
		}
		if a.Bits() != x.BitLen() || a.Sign() != x.Sign() {
			t.Fatalf("Bits or Sign of %v: got %d and %d", a, a.Bits(), a.Sign())
		}
		if a.Sign() != 0 || b.Sign() != 0 {
			wanted := new(big.Int).GCD(nil, nil, new(big.Int).Abs(x), new(big.Int).Abs(y))
			same(t, "Divisor", a.Divisor(b), wanted)
		}
		if b.Sign() != 0 {
			b, y = b.Size(), new(big.Int).Abs(y)
			q, rest := a.Over(b)
			wantedQ, wantedR := new(big.Int).DivMod(x, y, new(big.Int))
			same(t, "Over", q, wantedQ)
			same(t, "Over", rest, wantedR)
			word := b.size[0] | 1
			same(t, "Modulo", Word(a.Modulo(word)), new(big.Int).Mod(x, new(big.Int).SetUint64(word)))
		}
	}
}

func TestDivisorsOfLargeNumbers(t *testing.T) {
	r := rand.New(rand.NewSource(2))
	for range 100 {
		a, b, c := random(r, 40), random(r, 40), random(r, 20)
		if c.Sign() == 0 || a.Sign() == 0 {
			continue
		}
		x, y := bigOf(a.Times(c)), bigOf(b.Times(c))
		wanted := new(big.Int).GCD(nil, nil, x.Abs(x), y.Abs(y))
		same(t, "Divisor", a.Times(c).Divisor(b.Times(c)), wanted)
		same(t, "Divisor", b.Times(c).Divisor(a.Times(c)), wanted)
	}
}

func TestWholeNumbers(t *testing.T) {
	for _, n := range []int{0, 1, -1, 7, -7, math.MaxInt64, math.MinInt64, math.MinInt64 + 1} {
		same(t, "Whole", Whole(n), big.NewInt(int64(n)))
	}
	for _, n := range []int{0, 1, 63, 64, 65, 2400} {
		same(t, "TwoTo", TwoTo(n), new(big.Int).Lsh(big.NewInt(1), uint(n)))
	}
	same(t, "Root", Parse("99980001").Root(), big.NewInt(9999))
	same(t, "Root", Parse("99980000").Root(), big.NewInt(9998))
}

func TestReadShort(t *testing.T) {
	for text, wanted := range map[string]int{"0": 0, "7": 7, "-1": -1, "10": 10, "999999999": 999999999, "-999999999": -999999999, "-100": -100} {
		if got, ok := ReadShort(text); got != wanted || !ok {
			t.Errorf("%q: got %d, %v", text, got, ok)
		}
	}
	for _, text := range []string{"", "-", "-0", "00", "01", "-01", "+1", "--1", "1000000000", "-1000000000", "0000000001", "99999999999999999999", "1_0", "0x1", " 1", "1 ", "1.0", "1e2", "\u0661", "x"} {
		if got, ok := ReadShort(text); got != 0 || ok {
			t.Errorf("%q: got %d, %v", text, got, ok)
		}
	}
}

func TestRationals(t *testing.T) {
	r := rand.New(rand.NewSource(3))
	for range 1000 {
		a, b := Quotient(random(r, 5), Whole(1+r.Intn(1000))), Quotient(random(r, 3), Whole(-1-r.Intn(1000)))
		x, y := new(big.Rat).SetFrac(bigOf(a.Num()), bigOf(a.Den())), new(big.Rat).SetFrac(bigOf(b.Num()), bigOf(b.Den()))
		rational(t, "Plus", a.Plus(b), new(big.Rat).Add(x, y))
		rational(t, "Minus", a.Minus(b), new(big.Rat).Sub(x, y))
		rational(t, "Times", a.Times(b), new(big.Rat).Mul(x, y))
		if b.Sign() != 0 {
			rational(t, "Over", a.Over(b), new(big.Rat).Quo(x, y))
		}
		if a.Compare(b) != x.Cmp(y) {
			t.Fatalf("Compare of %v and %v: got %d", a, b, a.Compare(b))
		}
		same(t, "Floor", a.Floor(), new(big.Int).Div(x.Num(), x.Denom()))
	}
	rational(t, "Integer", Integer(Whole(-4)), big.NewRat(-4, 1))
	rational(t, "Quotient", Quotient(Whole(0), Whole(-5)), big.NewRat(0, 1))
}

func rational(t *testing.T, what string, got Rat, wanted *big.Rat) {
	t.Helper()
	if got.String() != wanted.RatString() {
		t.Fatalf("%s: got %v, want %v", what, got, wanted)
	}
}

func BenchmarkDivisor(b *testing.B) {
	r := rand.New(rand.NewSource(4))
	x, y := make(nat, 32), make(nat, 32)
	for i := range x {
		x[i], y[i] = r.Uint64(), r.Uint64()
	}
	for b.Loop() {
		x.gcd(y)
	}
}
