package number

import (
	"iter"
	"slices"
	"strconv"
	"strings"

	"crux/api"
)

// Clock returns the text of a time.
func Clock(time int) (string, api.Errno) {
	if time < 0 || time > api.MaxTime {
		return "", api.ErrRange
	}
	seconds := time / 1000
	minutes, hours := seconds/60, seconds/3600
	text := ""
	switch {
	case hours > 0:
		text = strconv.Itoa(hours) + ":" + padded(minutes%60, 2) + ":" + padded(seconds%60, 2)
	case minutes > 0:
		text = strconv.Itoa(minutes) + ":" + padded(seconds%60, 2)
	default:
		text = strconv.Itoa(seconds)
	}
	return text + "." + padded(time%1000, 3), api.OK
}

// padded returns a number with zeros in front, up to a width.
func padded(n, width int) string {
	digits := strconv.Itoa(n)
	return strings.Repeat("0", width-len(digits)) + digits
}

// ReadClock returns the time with a text.
func ReadClock(s string) (int, api.Errno) {
	if len(s) > api.MaxName {
		return 0, api.ErrLong
	}
	front, behind, _ := strings.Cut(s, ".")
	fields := []int{}
	for field, ok := range clockFields(front) {
		if !ok {
			return 0, api.ErrSyntax
		}
		fields = append(fields, field)
	}
	if len(fields) > 3 || len(behind) != 3 || !areDigits(behind) {
		return 0, api.ErrSyntax
	}
	seconds, ok := secondsOf(fields)
	if !ok {
		return 0, api.ErrRange
	}
	thousandths, _ := strconv.Atoi(behind)
	return seconds*1000 + thousandths, api.OK
}

// clockFields gives out the numbers between the colons of a time, from left to right, and whether each one has its form: the first one is any short integer, the others have two digits.
func clockFields(s string) iter.Seq2[int, bool] {
	return func(yield func(int, bool) bool) {
		for i, field := range strings.Split(s, ":") {
			ok := i == 0 && isShortInteger(field) || i > 0 && len(field) == 2 && areDigits(field)
			n, _ := strconv.Atoi(field)
			if !yield(n, ok) {
				return
			}
		}
	}
}

// secondsOf returns the seconds of up to three fields, and whether seconds and minutes are at most 59, and hours at most 23.
func secondsOf(fields []int) (int, bool) {
	most := [3]int{59, 59, 23}
	total, unit := 0, 1
	for i, field := range slices.Backward(fields) {
		if field > most[len(fields)-1-i] {
			return 0, false
		}
		total += field * unit
		unit *= 60
	}
	return total, true
}
