package wall

import (
	"crux/api"
	"crux/exact"
)

// The axes of space.
const (
	xAxis = iota
	yAxis
	zAxis
	axes // their number
)

// vector has a coordinate for each axis. It may be longer than a place is far.
//
// The sums of products below fit into 64 bits: ways between places have coordinates of at most 2 * MaxPlace, their cross products of at most 8 * MaxPlace², and their triple products are at most 48 * MaxPlace³, below 10^17.
type vector [axes]int

func vectorOf(a api.Place) vector {
	return vector{a.X, a.Y, a.Z}
}

func (a vector) place() api.Place {
	return api.Place{X: a[xAxis], Y: a[yAxis], Z: a[zAxis]}
}

// way returns the way from one place to another one.
func way(from, to api.Place) vector {
	return vectorOf(to).plus(vectorOf(from).times(-1))
}

func (a vector) plus(b vector) vector {
	return vector{a[xAxis] + b[xAxis], a[yAxis] + b[yAxis], a[zAxis] + b[zAxis]}
}

func (a vector) times(n int) vector {
	return vector{n * a[xAxis], n * a[yAxis], n * a[zAxis]}
}

func (a vector) dot(b vector) int {
	return a[xAxis]*b[xAxis] + a[yAxis]*b[yAxis] + a[zAxis]*b[zAxis]
}

func (a vector) cross(b vector) vector {
	return vector{
		a[yAxis]*b[zAxis] - a[zAxis]*b[yAxis],
		a[zAxis]*b[xAxis] - a[xAxis]*b[zAxis],
		a[xAxis]*b[yAxis] - a[yAxis]*b[xAxis],
	}
}

func (a vector) isZero() bool {
	return a == vector{}
}

// exactDot is dot for cross products, whose products do not fit into 64 bits.
func (a vector) exactDot(b vector) exact.Int {
	sum := exact.Int{}
	for axis := range axes {
		sum = sum.Plus(exact.Whole(a[axis]).Times(exact.Whole(b[axis])))
	}
	return sum
}

// shortened returns a vector, which is not 0, divided by the greatest common divisor of its coordinates.
func (a vector) shortened() vector {
	d := divisor(a[xAxis], divisor(a[yAxis], a[zAxis]))
	return vector{a[xAxis] / d, a[yAxis] / d, a[zAxis] / d}
}

// divisor returns the greatest common divisor, without a sign.
func divisor(a, b int) int {
	for b != 0 {
		a, b = b, a%b
	}
	return max(a, -a)
}

func sign(n int) int {
	return min(1, max(-1, n))
}
