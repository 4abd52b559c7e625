package space

import (
	"math/big"
	"math/rand"
	"testing"

	"crux/api"
)

func randomPlace(r *rand.Rand) api.Place {
	n := func() int { return r.Intn(2*api.MaxPlace+1) - api.MaxPlace }
	return api.Place{X: n(), Y: n(), Z: n()}
}

func TestVectors(t *testing.T) {
	a, b := api.Place{X: 1, Y: 2, Z: 3}, api.Place{X: 4, Y: 5, Z: 6}
	for _, row := range []struct {
		what        string
		got, wanted any
	}{
		{"Of", Of(a), Vector{1, 2, 3}},
		{"Way", Way(b, Of(a).Times(2).Place()), Vector{-2, -1, 0}},
		{"Square", Square(a, b), 27},
		{"Place", Vector{4, 5, 6}.Place(), b},
		{"Plus", Of(a).Plus(Of(b)), Vector{5, 7, 9}},
		{"Times", Of(a).Times(-3), Vector{-3, -6, -9}},
		{"Dot", Of(a).Dot(Of(b)), 32},
		{"Cross", Of(a).Cross(Of(b)), Vector{-3, 6, -3}},
		{"IsZero", Vector{}.IsZero(), true},
		{"IsZero", Vector{0, 0, 1}.IsZero(), false},
	} {
		if row.got != row.wanted {
			t.Errorf("%s: got %v, want %v", row.what, row.got, row.wanted)
		}
	}
}

// Lagrange: the square of the vector product, and that of the scalar product, are together the product of the squares.
func TestProducts(t *testing.T) {
	r := rand.New(rand.NewSource(1))
	for range 1000 {
		a, b := Way(randomPlace(r), randomPlace(r)), Way(randomPlace(r), randomPlace(r))
		c := a.Cross(b)
		if a.Dot(c) != 0 || b.Dot(c) != 0 {
			t.Errorf("the vector product of %v and %v: got %v", a, b, c)
		}
		square := func(n int) *big.Int { return new(big.Int).Mul(big.NewInt(int64(n)), big.NewInt(int64(n))) }
		wanted := new(big.Int).Mul(big.NewInt(int64(a.Dot(a))), big.NewInt(int64(b.Dot(b))))
		wanted.Sub(wanted, square(a.Dot(b)))
		if got := c.ExactDot(c).String(); got != wanted.String() {
			t.Errorf("the square of the vector product of %v and %v: got %v, want %v", a, b, got, wanted)
		}
	}
}
