package exact

import (
	"slices"
	"strconv"
	"strings"
)

// The decimal digits that fit into a word, and 10 to the power of their number.
const (
	group     = 19
	groupSize = 10000000000000000000
)

// shortDigits is the number of digits that integers in the texts of people have at most.
const shortDigits = 9

// Parse returns the integer with decimal digits, without a sign.
func Parse(digits string) Int {
	z := nat(nil)
	for len(digits) > 0 {
		first := (len(digits)-1)%group + 1
		word, _ := strconv.ParseUint(digits[:first], 10, 64)
		z = z.times(natOf(groupSize)).plus(natOf(word))
		digits = digits[first:]
	}
	return intOf(false, z)
}

// ParseRat returns the number with a text: an integer, or two with a slash between them, the first one perhaps with a minus sign in front, the second one not 0.
func ParseRat(text string) Rat {
	num, den, broken := strings.Cut(text, "/")
	if !broken {
		den = "1"
	}
	size, negative := strings.CutPrefix(num, "-")
	top := Parse(size)
	if negative {
		top = top.Negated()
	}
	return Quotient(top, Parse(den))
}

// String returns the decimal digits of a, with a minus sign in front if it is negative.
func (a Int) String() string {
	groups := []string{}
	for rest := a.size; len(rest) > 0; {
		q, word := rest.divideWord(groupSize)
		digits := strconv.FormatUint(word, 10)
		if len(q) > 0 {
			digits = strings.Repeat("0", group-len(digits)) + digits
		}
		groups = append(groups, digits)
		rest = q
	}
	switch {
	case len(groups) == 0:
		return "0"
	case a.negative:
		groups = append(groups, "-")
	}
	slices.Reverse(groups)
	return strings.Join(groups, "")
}

// String returns the numerator of a, and, if the denominator is not 1, a slash and the denominator.
func (a Rat) String() string {
	if a.den.Bits() == 1 {
		return a.num.String()
	}
	return a.num.String() + "/" + a.den.String()
}

// ReadShort returns the integer with a text of at most 9 digits without zeros in front, with a minus sign in front if it is negative; and whether the text is one.
func ReadShort(text string) (int, bool) {
	n, err := strconv.Atoi(text)
	digits := strings.TrimPrefix(text, "-")
	if err != nil || len(digits) > shortDigits || strconv.Itoa(n) != text {
		return 0, false
	}
	return n, true
}
