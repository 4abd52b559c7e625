package number

import (
	"math"
	"strconv"
	"strings"
	"testing"

	"crux/api"
)

// P1.5: the texts of times, and the times with them.
func TestClock(t *testing.T) {
	for _, row := range []struct {
		n int
		s string
	}{
		{0, "0.000"}, {1, "0.001"}, {999, "0.999"}, {1000, "1.000"}, {7123, "7.123"}, {59999, "59.999"},
		{60000, "1:00.000"}, {60001, "1:00.001"}, {62345, "1:02.345"}, {600000, "10:00.000"}, {3599999, "59:59.999"},
		{3600000, "1:00:00.000"}, {3659999, "1:00:59.999"}, {3660000, "1:01:00.000"}, {3723004, "1:02:03.004"}, {36000000, "10:00:00.000"}, {86399999, "23:59:59.999"},
	} {
		s, e := Clock(row.n)
		want(t, "Clock", s, row.s)
		want(t, "Clock", e, api.OK)
		n, e := ReadClock(row.s)
		want(t, "ReadClock of "+row.s, n, row.n)
		want(t, "ReadClock of "+row.s, e, api.OK)
	}
	for _, n := range []int{-1, 86400000, math.MinInt64, math.MaxInt64} {
		s, e := Clock(n)
		want(t, "Clock", s, "")
		want(t, "Clock", e, api.ErrRange)
	}
}

// P1.5: texts of times that are read, but not printed, and their errors, in their order.
func TestReadClock(t *testing.T) {
	for _, row := range []struct {
		s string
		n int
		e api.Errno
	}{
		{"0:05.000", 5000, api.OK},
		{"0:00.000", 0, api.OK},
		{"0:59.999", 59999, api.OK},
		{"0:00:05.000", 5000, api.OK},
		{"0:59:00.000", 3540000, api.OK},
		{"0:00:00.000", 0, api.OK},
		{"60.000", 0, api.ErrRange},
		{"61.000", 0, api.ErrRange},
		{"999999999.000", 0, api.ErrRange},
		{"1:60.000", 0, api.ErrRange},
		{"0:60.000", 0, api.ErrRange},
		{"0:99.000", 0, api.ErrRange},
		{"60:00.000", 0, api.ErrRange},
		{"999999999:00.000", 0, api.ErrRange},
		{"1:60:00.000", 0, api.ErrRange},
		{"1:00:60.000", 0, api.ErrRange},
		{"24:00:00.000", 0, api.ErrRange},
		{"999999999:99:99.999", 0, api.ErrRange},
		{"1000000000.000", 0, api.ErrSyntax},
		{"1000000000:00.000", 0, api.ErrSyntax},
		{"0000000001.000", 0, api.ErrSyntax},
		{"1:5.000", 0, api.ErrSyntax},
		{"1:005.000", 0, api.ErrSyntax},
		{"1:1:05.000", 0, api.ErrSyntax},
		{"1:001:05.000", 0, api.ErrSyntax},
		{"99:5.000", 0, api.ErrSyntax},
		{"01.000", 0, api.ErrSyntax},
		{"00.000", 0, api.ErrSyntax},
		{"00:05.000", 0, api.ErrSyntax},
		{"01:05.000", 0, api.ErrSyntax},
		{"00:00:05.000", 0, api.ErrSyntax},
		{"1.00", 0, api.ErrSyntax},
		{"1.0000", 0, api.ErrSyntax},
		{"1.", 0, api.ErrSyntax},
		{"1", 0, api.ErrSyntax},
		{"1:00", 0, api.ErrSyntax},
		{".000", 0, api.ErrSyntax},
		{":05.000", 0, api.ErrSyntax},
		{"1:.000", 0, api.ErrSyntax},
		{"1::05.000", 0, api.ErrSyntax},
		{"0:0:00:05.000", 0, api.ErrSyntax},
		{"0:00:00:05.000", 0, api.ErrSyntax},
		{"1.000.000", 0, api.ErrSyntax},
		{"1.000:05", 0, api.ErrSyntax},
		{"-1.000", 0, api.ErrSyntax},
		{"+1.000", 0, api.ErrSyntax},
		{"1:+5.000", 0, api.ErrSyntax},
		{"1:-5.000", 0, api.ErrSyntax},
		{"1.+00", 0, api.ErrSyntax},
		{"1.-10", 0, api.ErrSyntax},
		{"1.1e1", 0, api.ErrSyntax},
		{" 1.000", 0, api.ErrSyntax},
		{"1.000 ", 0, api.ErrSyntax},
		{"1,000", 0, api.ErrSyntax},
		{"a.000", 0, api.ErrSyntax},
		{"1.0\u0661", 0, api.ErrSyntax},
		{"", 0, api.ErrSyntax},
		{strings.Repeat("1", 24), 0, api.ErrSyntax},
		{strings.Repeat("1", 25), 0, api.ErrLong},
		{strings.Repeat("x", 25), 0, api.ErrLong},
	} {
		n, e := ReadClock(row.s)
		want(t, "ReadClock of "+row.s, n, row.n)
		want(t, "ReadClock of "+row.s, e, row.e)
	}
}

// P1.5, P1.6: times are read as they are printed.
func TestClockAgain(t *testing.T) {
	for n := 0; n <= api.MaxTime; n += 997 {
		s, _ := Clock(n)
		again, e := ReadClock(s)
		if again != n || e != api.OK {
			t.Fatalf("ReadClock of %s: got %d and %d, want %s", s, again, e, strconv.Itoa(n))
		}
	}
}
