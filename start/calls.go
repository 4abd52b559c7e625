package start

import (
	"crux/api"
	"crux/check"
)

// Calls returns when climbers are called, and when they start.
func Calls(n, first, each, warm int) ([][2]int, api.Errno) {
	if e := checkStarts(n, first, each, warm); e != api.OK {
		return nil, e
	}
	calls := make([][2]int, n)
	for i := range calls {
		time := first + i*each
		calls[i] = [2]int{max(0, time-warm), time}
	}
	return calls, api.OK
}

// Isolated returns who is in isolation at a time.
func Isolated(n, first, each, closes, time int) ([]int, api.Errno) {
	if e := checkStarts(n, first, each, closes, time); e != api.OK {
		return nil, e
	}
	var inside []int
	for i := range n {
		if time >= closes && first+i*each > time {
			inside = append(inside, i)
		}
	}
	return inside, api.OK
}

// checkStarts returns the first error of a number of climbers, and of times, or of the last start.
func checkStarts(n, first, each int, times ...int) api.Errno {
	e := check.First(
		check.Range(n, 0, api.MaxClimbers),
		checkTime(first),
		checkTime(each),
		check.Each(times, func(_, time int) api.Errno { return checkTime(time) }),
	)
	if e != api.OK {
		return e
	}
	// Without climbers this is a time before the first one, which is not too late.
	last := first + (n-1)*each
	return check.If(last > api.MaxTime, api.ErrLarge)
}

func checkTime(time int) api.Errno {
	return check.Range(time, 0, api.MaxTime)
}
