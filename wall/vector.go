package wall

import "crux/space"

// shortened returns a vector, which is not 0, divided by the greatest common divisor of its coordinates.
func shortened(a space.Vector) space.Vector {
	d := divisor(a[space.X], divisor(a[space.Y], a[space.Z]))
	return space.Vector{a[space.X] / d, a[space.Y] / d, a[space.Z] / d}
}

// divisor returns the greatest common divisor, without a sign.
func divisor(a, b int) int {
	for b != 0 {
		a, b = b, a%b
	}
	return max(a, -a)
}

func sign(n int) int {
	return min(1, max(-1, n))
}
