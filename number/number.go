// Package number is layer 1: see shared/doc/01-number.md. It computes with rational numbers and spans of them, with vectors, tables, shares, drawn orders and equations, and it reads and prints times and tickets.
package number

import "crux/api"

// IsName reports whether a text is a name.
func IsName(s string) bool {
	for i, c := range s {
		if !isLetter(c) && (i == 0 || !isDigit(c) && c != '_') {
			return false
		}
	}
	return len(s) > 0 && len(s) <= api.MaxName
}

func isLetter(c rune) bool {
	return c >= 'A' && c <= 'Z' || c >= 'a' && c <= 'z'
}

func isDigit(c rune) bool {
	return c >= '0' && c <= '9'
}

// areDigits reports whether a text has digits only. (An empty one has.)
func areDigits(s string) bool {
	for _, c := range s {
		if !isDigit(c) {
			return false
		}
	}
	return true
}

// isInteger reports whether a text is a decimal integer without zeros in front, and without a sign.
func isInteger(s string) bool {
	return s == "0" || s != "" && s[0] != '0' && areDigits(s)
}

// isShortInteger reports whether a text is an integer with at most the 9 digits that texts of people have.
func isShortInteger(s string) bool {
	return len(s) <= 9 && isInteger(s)
}
