package number

import (
	"math"
	"math/big"
	"math/rand"
	"slices"
	"strconv"
	"testing"

	"crux/api"
)

func place(x, y, z int) api.Place {
	return api.Place{X: x, Y: y, Z: z}
}

// wrongPlaces have a coordinate out of its range.
func wrongPlaces() []api.Place {
	return []api.Place{place(100001, 0, 0), place(0, 100001, 0), place(0, 0, 100001), place(-100001, 0, 0), place(0, -100001, 0), place(0, 0, -100001), place(math.MinInt64, math.MaxInt64, 0)}
}

// P1.3: products and lengths of vectors.
func TestVectors(t *testing.T) {
	const far = 100000
	for _, row := range []struct {
		a, b  api.Place
		dot   int
		cross api.Place
	}{
		{place(1, 2, 3), place(4, 5, 6), 32, place(-3, 6, -3)},
		{place(4, 5, 6), place(1, 2, 3), 32, place(3, -6, 3)},
		{place(1, 0, 0), place(0, 1, 0), 0, place(0, 0, 1)},
		{place(0, 1, 0), place(0, 0, 1), 0, place(1, 0, 0)},
		{place(0, 0, 1), place(1, 0, 0), 0, place(0, 1, 0)},
		{place(0, 0, 0), place(7, 8, 9), 0, place(0, 0, 0)},
		{place(far, far, far), place(-far, -far, -far), -3 * far * far, place(0, 0, 0)},
		{place(far, far, far), place(far, -far, far), far * far, place(2*far*far, 0, -2*far*far)},
	} {
		n, e := Dot(row.a, row.b)
		want(t, "Dot", n, row.dot)
		want(t, "Dot", e, api.OK)
		p, e := Cross(row.a, row.b)
		want(t, "Cross", p, row.cross)
		want(t, "Cross", e, api.OK)
	}
	for _, p := range wrongPlaces() {
		for _, pair := range [][2]api.Place{{p, place(1, 2, 3)}, {place(1, 2, 3), p}, {p, p}} {
			n, e := Dot(pair[0], pair[1])
			want(t, "Dot of a far place", n, 0)
			want(t, "Dot of a far place", e, api.ErrRange)
			c, e := Cross(pair[0], pair[1])
			want(t, "Cross of a far place", c, api.Place{})
			want(t, "Cross of a far place", e, api.ErrRange)
		}
		s, e := Length(p)
		want(t, "Length of a far place", s, api.Span{})
		want(t, "Length of a far place", e, api.ErrRange)
	}
}

// P1.3: lengths, exact ones and others.
func TestLength(t *testing.T) {
	for _, row := range []struct {
		p         api.Place
		low, high api.Rat
	}{
		{place(0, 0, 0), "0", "0"}, {place(2, 3, 6), "7", "7"}, {place(-2, -3, -6), "7", "7"}, {place(1, 1, 1), "1", "2"},
		{place(0, 0, -5), "5", "5"}, {place(1, 1, 0), "1", "2"}, {place(2, 1, 0), "2", "3"}, {place(2, 2, 0), "2", "3"},
		{place(100000, 0, 0), "100000", "100000"}, {place(100000, 1, 0), "100000", "100001"},
		{place(100000, 100000, 100000), "173205", "173206"}, {place(99999, 447, 0), "99999", "100000"},
	} {
		s, e := Length(row.p)
		want(t, "Length", s, span(row.low, row.high))
		want(t, "Length", e, api.OK)
	}
	r := rand.New(rand.NewSource(14))
	for range 500 {
		p := place(r.Intn(200001)-100000, r.Intn(200001)-100000, r.Intn(200001)-100000)
		square := p.X*p.X + p.Y*p.Y + p.Z*p.Z
		n := int(new(big.Int).Sqrt(big.NewInt(int64(square))).Int64())
		high := n
		if n*n < square {
			high++
		}
		s, _ := Length(p)
		want(t, "Length", s, span(api.Rat(strconv.Itoa(n)), api.Rat(strconv.Itoa(high))))
	}
}

// table returns breakpoints from their X and Y in turn.
func table(l ...api.Rat) []api.Point {
	t := []api.Point{}
	for i := 0; i+1 < len(l); i += 2 {
		t = append(t, api.Point{X: l[i], Y: l[i+1]})
	}
	return t
}

// steps returns a table with n breakpoints.
func steps(n int) []api.Point {
	t := []api.Point{}
	for i := range n {
		t = append(t, api.Point{X: api.Rat(strconv.Itoa(i)), Y: "0"})
	}
	return t
}

// P1.3: the error of a table.
func TestCheckTable(t *testing.T) {
	for _, row := range []struct {
		table []api.Point
		e     api.Errno
	}{
		{table("0", "0", "10", "5", "20", "5"), api.OK},
		{table("1", "1"), api.OK},
		{table("-1/2", "9", "-1/3", "-9", "0", "9"), api.OK},
		{steps(64), api.OK},
		{nil, api.ErrEmpty},
		{[]api.Point{}, api.ErrEmpty},
		{steps(65), api.ErrMany},
		{make([]api.Point, 65), api.ErrMany},
		{table("1", "0", "1", "1"), api.ErrOrder},
		{table("1", "0", "1/2", "1"), api.ErrOrder},
		{table("", nines(601)), api.ErrForm},
		{table(nines(601), ""), api.ErrLarge},
		{table("1", nines(601), "", ""), api.ErrLarge},
		{table("1", "0", "1", ""), api.ErrForm},
		{table("1", "0", "1", nines(601)), api.ErrLarge},
		{table("1", "0", "0", "0", "", ""), api.ErrOrder},
		{table("1", "0", "", "0", "0", "0"), api.ErrForm},
	} {
		want(t, "CheckTable", CheckTable(row.table), row.e)
		y, e := Value(row.table, "1")
		want(t, "Value of a table", e, row.e)
		if row.e != api.OK {
			want(t, "Value of a wrong table", y, api.Rat(""))
			_, e = Value(row.table, "wrong, but behind the table")
			want(t, "Value of a wrong table", e, row.e)
		}
	}
	for a, wanted := range wrongNumbers() {
		want(t, "CheckTable with a wrong X", CheckTable(table("-5", "0", a, "0")), wanted)
		want(t, "CheckTable with a wrong Y", CheckTable(table("-5", "0", "0", a)), wanted)
		y, e := Value(table("0", "0"), a)
		want(t, "Value at a wrong number", e, wanted)
		want(t, "Value at a wrong number", y, api.Rat(""))
	}
}

// P1.3: values in front of a table, at its breakpoints, between them, and behind it.
func TestValue(t *testing.T) {
	slope := table("0", "0", "10", "5", "20", "5")
	for _, row := range []struct {
		table []api.Point
		x, y  api.Rat
	}{
		{slope, "4", "2"}, {slope, "-1", "0"}, {slope, "0", "0"}, {slope, "1/3", "1/6"}, {slope, "10", "5"}, {slope, "15", "5"}, {slope, "20", "5"}, {slope, "30", "5"},
		{slope, "-" + nines(600), "0"}, {slope, nines(600), "5"},
		{table("3", "7"), "2", "7"}, {table("3", "7"), "3", "7"}, {table("3", "7"), "4", "7"},
		{table("-1", "2", "0", "3/2", "1", "1"), "-1/2", "7/4"}, {table("-1", "2", "0", "3/2", "1", "1"), "1/2", "5/4"},
		{table("0", "1", "3", "-1"), "1", "1/3"}, {table("0", "1", "3", "-1"), "2", "-1/3"}, {table("0", "1", "3", "-1"), "-1", "1"}, {table("0", "1", "3", "-1"), "4", "-1"},
		{table("0", nines(600), "1", "0"), "0", nines(600)}, {table("0", "0", "1", nines(600)), "1", nines(600)},
		{table("0", "0", nines(600), nines(600)), "2/3", "2/3"},
	} {
		y, e := Value(row.table, row.x)
		want(t, "Value at "+string(row.x), y, row.y)
		want(t, "Value at "+string(row.x), e, api.OK)
	}
	y, e := Value(table("0", "0", "1", "1/"+nines(600)), "1/2")
	want(t, "Value with a large denominator", e, api.ErrLarge)
	want(t, "Value with a large denominator", y, api.Rat(""))
}

// P1.3: values between breakpoints are on the straight line.
func TestRandomValues(t *testing.T) {
	r := rand.New(rand.NewSource(15))
	for range 300 {
		l := []*big.Rat{randomRat(r, 20), randomRat(r, 20), randomRat(r, 20)}
		slices.SortFunc(l, (*big.Rat).Cmp)
		a, x, b := l[0], l[1], l[2]
		p, q := randomRat(r, 20), randomRat(r, 20)
		if a.Cmp(b) == 0 {
			continue
		}
		y, e := Value(table(textOf(a), textOf(p), textOf(b), textOf(q)), textOf(x))
		part := new(big.Rat).Quo(new(big.Rat).Sub(x, a), new(big.Rat).Sub(b, a))
		wanted := new(big.Rat).Add(p, part.Mul(part, new(big.Rat).Sub(q, p)))
		want(t, "Value", y, textOf(wanted))
		want(t, "Value", e, api.OK)
	}
}
