// Package space has vectors of integers in space. The layers compute with them.
package space

import (
	"crux/api"
	"crux/exact"
)

// The axes of space.
const (
	X = iota
	Y
	Z
	Axes // their number
)

// Vector has a coordinate for each axis. It may be longer than a place is far.
//
// The sums of products below fit into 64 bits: ways between places have coordinates of at most 2 * MaxPlace, their cross products of at most 8 * MaxPlace², and their triple products are at most 48 * MaxPlace³, below 10^17.
type Vector [Axes]int

// Of returns the vector with the coordinates of a place.
func Of(a api.Place) Vector {
	return Vector{a.X, a.Y, a.Z}
}

// Way returns the way from one place to another one.
func Way(from, to api.Place) Vector {
	return Of(to).Plus(Of(from).Times(-1))
}

// Square returns the square of the distance of two places.
func Square(a, b api.Place) int {
	way := Way(a, b)
	return way.Dot(way)
}

// Place returns the place with the coordinates of a.
func (a Vector) Place() api.Place {
	return api.Place{X: a[X], Y: a[Y], Z: a[Z]}
}

// Plus returns the sum of a and b.
func (a Vector) Plus(b Vector) Vector {
	return Vector{a[X] + b[X], a[Y] + b[Y], a[Z] + b[Z]}
}

// Times returns a, n times.
func (a Vector) Times(n int) Vector {
	return Vector{n * a[X], n * a[Y], n * a[Z]}
}

// Dot returns the scalar product of a and b.
func (a Vector) Dot(b Vector) int {
	return a[X]*b[X] + a[Y]*b[Y] + a[Z]*b[Z]
}

// Cross returns the vector product of a and b.
func (a Vector) Cross(b Vector) Vector {
	return Vector{
		a[Y]*b[Z] - a[Z]*b[Y],
		a[Z]*b[X] - a[X]*b[Z],
		a[X]*b[Y] - a[Y]*b[X],
	}
}

// IsZero reports whether all coordinates are 0.
func (a Vector) IsZero() bool {
	return a == Vector{}
}

// ExactDot is Dot for vector products, whose products do not fit into 64 bits.
func (a Vector) ExactDot(b Vector) exact.Int {
	sum := exact.Int{}
	for axis := range Axes {
		sum = sum.Plus(exact.Whole(a[axis]).Times(exact.Whole(b[axis])))
	}
	return sum
}
