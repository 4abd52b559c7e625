package number

import (
	"math/big"
	"math/rand"
	"strconv"
	"testing"

	"crux/api"
)

// within reports whether a number is in a span.
func within(t *testing.T, a api.Rat, s api.Span) bool {
	t.Helper()
	low, e := Order(s.Low, a)
	want(t, "Order", e, api.OK)
	high, e := Order(a, s.High)
	want(t, "Order", e, api.OK)
	return low <= 0 && high <= 0
}

// inside returns a number of a span, often one of its ends.
func inside(t *testing.T, r *rand.Rand, s api.Span) api.Rat {
	low, high := bigRat(t, s.Low), bigRat(t, s.High)
	part := big.NewRat(int64(r.Intn(4)), 3)
	width := new(big.Rat).Sub(high, low)
	return textOf(low.Add(low, width.Mul(width, part)))
}

// P1.6: what is computed with numbers of spans is in the span that is computed with these.
func TestSpansContain(t *testing.T) {
	r := rand.New(rand.NewSource(20))
	type binary func(a, b api.Rat) (api.Rat, api.Errno)
	plain := map[string]binary{"Plus": Add, "Minus": Sub, "Times": Mul, "Over": Div}
	for range 300 {
		a, b := randomSpan(r, 20), randomSpan(r, 20)
		for name, f := range spanOperations() {
			s, e := f(a, b)
			if e != api.OK {
				want(t, name, e, api.ErrZero)
				continue
			}
			for range 4 {
				x, y := inside(t, r, a), inside(t, r, b)
				z, e := plain[name](x, y)
				want(t, name, e, api.OK)
				want(t, name+": what is computed is within", within(t, z, s), true)
			}
		}
	}
}

// P1.6: a wider span never gives a narrower one.
func TestWiderSpans(t *testing.T) {
	r := rand.New(rand.NewSource(21))
	for range 300 {
		wide, other := randomSpan(r, 20), randomSpan(r, 20)
		x, y := inside(t, r, wide), inside(t, r, wide)
		if n, _ := Order(x, y); n > 0 {
			x, y = y, x
		}
		narrow := span(x, y)
		for name, f := range spanOperations() {
			contains(t, name, f, wide, other, narrow, other)
			contains(t, name, f, other, wide, other, narrow)
		}
	}
}

// contains checks that an operation gives more for the spans a and b than for c and d, which are within them.
func contains(t *testing.T, name string, f spanOperation, a, b, c, d api.Span) {
	t.Helper()
	more, e := f(a, b)
	if e != api.OK {
		return
	}
	less, e := f(c, d)
	want(t, name+" of narrower spans", e, api.OK)
	want(t, name+" of narrower spans is within", within(t, less.Low, more) && within(t, less.High, more), true)
}

// P1.6: a number is between the squares of the ends of its root, which are at most 1/1000 apart, and not below 0.
func TestRootsContain(t *testing.T) {
	r := rand.New(rand.NewSource(22))
	for range 300 {
		a := textOf(new(big.Rat).Abs(randomRat(r, 250)))
		s, e := Root(a)
		want(t, "Root", e, api.OK)
		low, _ := Mul(s.Low, s.Low)
		high, _ := Mul(s.High, s.High)
		want(t, "a number is between the squares", within(t, a, span(low, high)), true)
		gap, _ := Sub(s.High, s.Low)
		want(t, "the ends of a root are close", gap == "0" || gap == "1/1000", true)
		want(t, "the ends of a root are the same for a square alone", gap == "0", low == a)
		n, _ := Order("0", s.Low)
		want(t, "a root is not below 0", n <= 0, true)
	}
}

// P1.6: vector products are at right angles to both factors, and Lagrange's identity holds.
func TestLagrange(t *testing.T) {
	r := rand.New(rand.NewSource(23))
	coordinate := func() int { return r.Intn(200001) - 100000 }
	for range 300 {
		a, b := place(coordinate(), coordinate(), coordinate()), place(coordinate(), coordinate(), coordinate())
		c, e := Cross(a, b)
		want(t, "Cross", e, api.OK)
		want(t, "right angles", []int{a.X*c.X + a.Y*c.Y + a.Z*c.Z, b.X*c.X + b.Y*c.Y + b.Z*c.Z}, []int{0, 0})
		ab, _ := Dot(a, b)
		aa, _ := Dot(a, a)
		bb, _ := Dot(b, b)
		sum := new(big.Int)
		for _, n := range []int{c.X, c.Y, c.Z, ab} {
			sum.Add(sum, new(big.Int).Mul(big.NewInt(int64(n)), big.NewInt(int64(n))))
		}
		want(t, "Lagrange's identity", sum.String(), new(big.Int).Mul(big.NewInt(int64(aa)), big.NewInt(int64(bb))).String())
		s, _ := Length(a)
		low, _ := Mul(s.Low, s.Low)
		high, _ := Mul(s.High, s.High)
		want(t, "a square is between those of the ends of the length", within(t, api.Rat(strconv.Itoa(aa)), span(low, high)), true)
	}
}

// P1.6: shares add up to the total, and a drawn order has each element once.
func TestDealsAddUp(t *testing.T) {
	r := rand.New(rand.NewSource(24))
	for range 300 {
		weights, total := []int{}, r.Intn(api.MaxNumber+1)
		for range 1 + r.Intn(256) {
			weights = append(weights, r.Intn(api.MaxNumber+1))
		}
		l, e := Shares(total, weights)
		want(t, "Shares", e, api.OK)
		sum := 0
		for _, n := range l {
			sum += n
			want(t, "a share is not below 0", n >= 0, true)
		}
		want(t, "the sum of shares", sum, total)

		n := r.Intn(257)
		order, e := Draw(1+r.Intn(2147483646), n)
		want(t, "Draw", e, api.OK)
		seen := map[int]bool{}
		for _, i := range order {
			want(t, "an element is one of n", i >= 0 && i < n, true)
			seen[i] = true
		}
		want(t, "each element once", []int{len(seen), len(order)}, []int{n, n})
	}
}

// P1.6: tickets are read as they are printed.
func TestTicketsAgain(t *testing.T) {
	tickets := map[string][]Ticket{}
	for hold := range 66 {
		for _, plus := range []bool{false, true} {
			tickets["lead"] = append(tickets["lead"], lead(hold, plus))
		}
	}
	tickets["lead"] = append(tickets["lead"], top())
	for tries := range 101 {
		for zone := range 101 {
			tickets["boulder"] = append(tickets["boulder"], boulder(tries, zone))
		}
	}
	for _, l := range tickets {
		good := []Ticket{}
		for _, ticket := range l {
			if CheckTicket(ticket) == api.OK {
				good = append(good, ticket)
			}
		}
		for len(good) > 0 {
			part := good[:min(256, len(good))]
			good = good[len(part):]
			s, e := Print(part)
			want(t, "Print", e, api.OK)
			again, n, e := Parse(s)
			want(t, "Parse", again, part)
			want(t, "Parse", n, 0)
			want(t, "Parse", e, api.OK)
		}
	}
}
