package check

import (
	"math"
	"testing"

	"crux/api"
)

func TestFirst(t *testing.T) {
	for _, row := range []struct {
		l []api.Errno
		e api.Errno
	}{
		{nil, api.OK},
		{[]api.Errno{api.OK, api.OK}, api.OK},
		{[]api.Errno{api.OK, api.ErrZero, api.ErrForm}, api.ErrZero},
		{[]api.Errno{api.ErrForm, api.OK, api.ErrZero}, api.ErrForm},
	} {
		if e := First(row.l...); e != row.e {
			t.Errorf("First(%v): got %v, want %v", row.l, e, row.e)
		}
	}
}

func TestIf(t *testing.T) {
	if e := If(true, api.ErrZero); e != api.ErrZero {
		t.Errorf("If true: got %v", e)
	}
	if e := If(false, api.ErrZero); e != api.OK {
		t.Errorf("If false: got %v", e)
	}
}

func TestEachAndFind(t *testing.T) {
	errorOf := func(i int, x api.Errno) api.Errno { return If(i > 0, x) }
	for _, row := range []struct {
		l []api.Errno
		n int
		e api.Errno
	}{
		{nil, 0, api.OK},
		{[]api.Errno{api.ErrForm, api.OK}, 0, api.OK},
		{[]api.Errno{api.ErrForm, api.OK, api.ErrZero, api.ErrForm}, 2, api.ErrZero},
	} {
		if e := Each(row.l, errorOf); e != row.e {
			t.Errorf("Each(%v): got %v, want %v", row.l, e, row.e)
		}
		if n, e := Find(row.l, errorOf); n != row.n || e != row.e {
			t.Errorf("Find(%v): got %v and %v, want %v and %v", row.l, n, e, row.n, row.e)
		}
	}
}

func TestRange(t *testing.T) {
	for n, e := range map[int]api.Errno{math.MinInt: api.ErrRange, -3: api.ErrRange, -2: api.OK, 5: api.OK, 6: api.ErrRange, math.MaxInt: api.ErrRange} {
		if got := Range(n, -2, 5); got != e {
			t.Errorf("Range(%v): got %v, want %v", n, got, e)
		}
	}
}

func TestPlaces(t *testing.T) {
	near := api.Place{X: api.MaxPlace, Y: -api.MaxPlace, Z: api.MaxPlace}
	for _, row := range []struct {
		l []api.Place
		e api.Errno
	}{
		{nil, api.OK},
		{[]api.Place{near, {}}, api.OK},
		{[]api.Place{near, {X: api.MaxPlace + 1}}, api.ErrRange},
		{[]api.Place{{Y: -api.MaxPlace - 1}, near}, api.ErrRange},
		{[]api.Place{{Z: math.MinInt}}, api.ErrRange},
	} {
		if e := Places(row.l...); e != row.e {
			t.Errorf("Places(%v): got %v, want %v", row.l, e, row.e)
		}
	}
}
