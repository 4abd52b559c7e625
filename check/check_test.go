package check

import (
	"testing"

	"crux/api"
)

func TestFirst(t *testing.T) {
	for _, row := range []struct {
		l []api.Errno
		e api.Errno
	}{
		{nil, api.OK},
		{[]api.Errno{api.OK, api.OK}, api.OK},
		{[]api.Errno{api.OK, api.ErrZero, api.ErrForm}, api.ErrZero},
		{[]api.Errno{api.ErrForm, api.OK, api.ErrZero}, api.ErrForm},
	} {
		if e := First(row.l...); e != row.e {
			t.Errorf("First(%v): got %v, want %v", row.l, e, row.e)
		}
	}
}

func TestIf(t *testing.T) {
	if e := If(true, api.ErrZero); e != api.ErrZero {
		t.Errorf("If true: got %v", e)
	}
	if e := If(false, api.ErrZero); e != api.OK {
		t.Errorf("If false: got %v", e)
	}
}
