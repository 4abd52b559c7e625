package number

import (
	"strings"

	"crux/api"
	"crux/check"
	"crux/exact"
)

// Check returns the first error of a number, or OK.
func Check(a api.Rat) api.Errno {
	_, e := read(a)
	return e
}

// Of returns the quotient of two integers.
func Of(num, den int) (api.Rat, api.Errno) {
	if den == 0 {
		return "", api.ErrZero
	}
	return write(exact.Quotient(exact.Whole(num), exact.Whole(den)))
}

// Add returns the sum.
func Add(a, b api.Rat) (api.Rat, api.Errno) {
	return compute(a, b, exact.Rat.Plus)
}

// Sub returns the difference.
func Sub(a, b api.Rat) (api.Rat, api.Errno) {
	return compute(a, b, exact.Rat.Minus)
}

// Mul returns the product.
func Mul(a, b api.Rat) (api.Rat, api.Errno) {
	return compute(a, b, exact.Rat.Times)
}

// Div returns the quotient.
func Div(a, b api.Rat) (api.Rat, api.Errno) {
	x, y, e := readTwo(a, b)
	if e = check.First(e, check.If(y.Sign() == 0, api.ErrZero)); e != api.OK {
		return "", e
	}
	return write(x.Over(y))
}

// Order compares two numbers.
func Order(a, b api.Rat) (int, api.Errno) {
	x, y, e := readTwo(a, b)
	if e != api.OK {
		return 0, e
	}
	return x.Compare(y), api.OK
}

// Floor returns the greatest integer that is not above a number.
func Floor(a api.Rat) (api.Rat, api.Errno) {
	x, e := read(a)
	if e != api.OK {
		return "", e
	}
	return write(exact.Integer(x.Floor()))
}

func compute(a, b api.Rat, operation func(x, y exact.Rat) exact.Rat) (api.Rat, api.Errno) {
	x, y, e := readTwo(a, b)
	if e != api.OK {
		return "", e
	}
	return write(operation(x, y))
}

// read returns the number with a text, or the error of the text.
func read(a api.Rat) (exact.Rat, api.Errno) {
	text := string(a)
	if e := checkParts(text); e != api.OK {
		return exact.Rat{}, e
	}
	x := exact.ParseRat(text)
	if x.String() != text { // a common divisor has gone
		return exact.Rat{}, api.ErrForm
	}
	return x, api.OK
}

// checkParts returns the error of the numerator or the denominator in the text of a number, without a look at common divisors.
func checkParts(s string) api.Errno {
	num, den, broken := strings.Cut(s, "/")
	size, negative := strings.CutPrefix(num, "-")
	wrong := !isInteger(size) || negative && size == "0" ||
		broken && (!isInteger(den) || den == "0" || den == "1")
	large := len(size) > api.MaxDigits || len(den) > api.MaxDigits
	return check.First(check.If(wrong, api.ErrForm), check.If(large, api.ErrLarge))
}

func readTwo(a, b api.Rat) (exact.Rat, exact.Rat, api.Errno) {
	x, first := read(a)
	y, second := read(b)
	return x, y, check.First(first, second)
}

// write returns the text of a number, or ErrLarge.
func write(a exact.Rat) (api.Rat, api.Errno) {
	if isLarge(a.Num()) || isLarge(a.Den()) {
		return "", api.ErrLarge
	}
	return api.Rat(a.String()), api.OK
}

// isLarge reports whether an integer has more than MaxDigits digits.
func isLarge(n exact.Int) bool {
	// Printing takes long for what 4 bits a digit cannot hold.
	return n.Bits() > 4*api.MaxDigits || len(n.Size().String()) > api.MaxDigits
}
