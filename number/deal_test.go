package number

import (
	"math"
	"math/rand"
	"slices"
	"testing"

	"crux/api"
)

// full returns n integers.
func full(n, value int) []int {
	return slices.Repeat([]int{value}, n)
}

// P1.4: shares, with equal remainders and without.
func TestShares(t *testing.T) {
	for _, row := range []struct {
		total   int
		weights []int
		wanted  []int
	}{
		{10, []int{1, 1, 1}, []int{4, 3, 3}},
		{11, []int{1, 1, 1}, []int{4, 4, 3}},
		{12, []int{1, 1, 1}, []int{4, 4, 4}},
		{10, []int{1, 2, 0}, []int{3, 7, 0}},
		{10, []int{0, 2, 1}, []int{0, 7, 3}},
		{0, []int{5, 3}, []int{0, 0}},
		{7, []int{9}, []int{7}},
		{1, []int{0, 0, 3}, []int{0, 0, 1}},
		{1, []int{1, 2, 2}, []int{0, 1, 0}},
		{3, []int{1, 2, 2}, []int{1, 1, 1}},
		{2, []int{3, 3, 1, 3}, []int{1, 1, 0, 0}},
		{5, []int{7, 2, 1}, []int{4, 1, 0}},
		{api.MaxNumber, []int{1, 1}, []int{500000000, 499999999}},
		{api.MaxNumber, full(256, api.MaxNumber), append(full(255, 3906250), 3906249)},
		{api.MaxNumber, []int{api.MaxNumber, 0, 1}, []int{999999998, 0, 1}},
		{255, full(256, 1), append(full(255, 1), 0)},
	} {
		l, e := Shares(row.total, row.weights)
		want(t, "Shares", l, row.wanted)
		want(t, "Shares", e, api.OK)
	}
}

// P1.4: the errors of shares, in their order.
func TestSharesErrors(t *testing.T) {
	for _, row := range []struct {
		total   int
		weights []int
		e       api.Errno
	}{
		{-1, nil, api.ErrRange},
		{1000000000, full(257, -1), api.ErrRange},
		{math.MinInt64, []int{1}, api.ErrRange},
		{math.MaxInt64, []int{1}, api.ErrRange},
		{0, nil, api.ErrEmpty},
		{1, []int{}, api.ErrEmpty},
		{1, full(257, 1), api.ErrMany},
		{1, full(257, -1), api.ErrMany},
		{1, full(257, 0), api.ErrMany},
		{1, []int{0, 0, -1}, api.ErrRange},
		{1, []int{1, 1000000000}, api.ErrRange},
		{1, []int{math.MaxInt64, math.MaxInt64}, api.ErrRange},
		{0, []int{0, 0}, api.ErrZero},
		{1, full(256, 0), api.ErrZero},
	} {
		l, e := Shares(row.total, row.weights)
		want(t, "Shares", l, []int(nil))
		want(t, "Shares", e, row.e)
	}
}

// P1.4: shares and draws leave their arguments as they are.
func TestArgumentsStay(t *testing.T) {
	weights := []int{3, 1, 2}
	first, _ := Shares(10, weights)
	first[0] = 99
	second, _ := Shares(10, weights)
	want(t, "weights", weights, []int{3, 1, 2})
	want(t, "Shares once more", second, []int{5, 2, 3})
	m := [][]api.Rat{{"0", "2"}, {"3", "0"}}
	b := []api.Rat{"4", "9"}
	x, _ := Solve(m, b)
	want(t, "Solve", x, []api.Rat{"3", "2"})
	want(t, "equations", m, [][]api.Rat{{"0", "2"}, {"3", "0"}})
	want(t, "right sides", b, []api.Rat{"4", "9"})
}

// plainDraw follows the definition of the drawn order.
func plainDraw(key, n int) []int {
	l := []int{}
	for i := range n {
		l = append(l, i)
	}
	x := int64(key)
	for i := 0; i <= n-2; i++ {
		x = 48271 * x % 2147483647
		k := i + int(x%int64(n-i))
		l[i], l[k] = l[k], l[i]
	}
	return l
}

// P1.4: drawn orders.
func TestDraw(t *testing.T) {
	for _, row := range []struct {
		key, n int
		wanted []int
	}{
		{1, 3, []int{1, 0, 2}},
		{1, 0, []int{}},
		{1, 1, []int{0}},
		{2147483646, 1, []int{0}},
		{1, 2, []int{1, 0}},
		{2, 2, []int{0, 1}},
	} {
		l, e := Draw(row.key, row.n)
		want(t, "Draw", l, row.wanted)
		want(t, "Draw", e, api.OK)
	}
	r := rand.New(rand.NewSource(16))
	for range 200 {
		key, n := 1+r.Intn(2147483646), r.Intn(257)
		l, e := Draw(key, n)
		want(t, "Draw", l, plainDraw(key, n))
		want(t, "Draw", e, api.OK)
	}
	for _, key := range []int{1, 2147483646} {
		l, e := Draw(key, 256)
		want(t, "Draw of 256", l, plainDraw(key, 256))
		want(t, "Draw of 256", e, api.OK)
	}
	for _, row := range [][2]int{{0, 3}, {-1, 3}, {2147483647, 3}, {math.MaxInt64, 3}, {math.MinInt64, 3}, {1, -1}, {1, 257}, {1, math.MaxInt64}, {1, math.MinInt64}, {0, 0}} {
		l, e := Draw(row[0], row[1])
		want(t, "Draw", l, []int(nil))
		want(t, "Draw", e, api.ErrRange)
	}
}
