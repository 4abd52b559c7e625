package number

import (
	"cmp"
	"slices"

	"crux/api"
	"crux/check"
)

// The draws of an order by a key: each one is the one before times the factor, modulo the prime.
const (
	drawFactor = 48271
	drawPrime  = 2147483647
)

// Shares divides an integer by weights.
func Shares(total int, weights []int) ([]int, api.Errno) {
	inRange := total >= 0 && total <= api.MaxNumber
	e := check.First(check.If(!inRange, api.ErrRange), checkWeights(weights))
	if e != api.OK {
		return nil, e
	}
	return shares(total, weights), api.OK
}

func shares(total int, weights []int) []int {
	whole := 0
	for _, w := range weights {
		whole += w
	}
	left := total
	deal := make([]int, len(weights))
	rest := make([]int, len(weights))
	order := make([]int, len(weights))
	for i, w := range weights {
		deal[i], rest[i], order[i] = total*w/whole, total*w%whole, i
		left -= deal[i]
	}
	slices.SortStableFunc(order, func(i, j int) int {
		return cmp.Compare(rest[j], rest[i])
	})
	for _, i := range order[:left] {
		deal[i]++
	}
	return deal
}

func checkWeights(weights []int) api.Errno {
	switch {
	case len(weights) == 0:
		return api.ErrEmpty
	case len(weights) > api.MaxList:
		return api.ErrMany
	}
	zero := true
	for _, w := range weights {
		if w < 0 || w > api.MaxNumber {
			return api.ErrRange
		}
		zero = zero && w == 0
	}
	return check.If(zero, api.ErrZero)
}

// Draw returns a drawn order of n elements.
func Draw(key, n int) ([]int, api.Errno) {
	if key < 1 || key >= drawPrime || n < 0 || n > api.MaxList {
		return nil, api.ErrRange
	}
	order := make([]int, n)
	for i := range order {
		order[i] = i
	}
	x := key
	for i := range n - 1 {
		x = drawFactor * x % drawPrime
		j := i + x%(n-i)
		order[i], order[j] = order[j], order[i]
	}
	return order, api.OK
}
