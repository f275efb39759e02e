package give_test

import (
	"testing"

	"foliant/api"
	"foliant/give"
)

func half(n int) (int, api.Errno) {
	if n%2 != 0 {
		return 0, api.ErrArg
	}
	return n / 2, api.OK
}

func TestValueAndCaught(t *testing.T) {
	for _, c := range []struct {
		n, want int
		err     api.Errno
	}{{8, 2, api.OK}, {6, 0, api.ErrArg}, {7, 0, api.ErrArg}, {12, 3, api.OK}} {
		got, e := give.Caught(func() int { return give.Value(half(give.Value(half(c.n)))) })
		if got != c.want || e != c.err {
			t.Errorf("a quarter of %d = %d, %d, want %d, %d", c.n, got, e, c.want, c.err)
		}
	}
}

func TestUp(t *testing.T) {
	if n, e := give.Caught(func() int { give.Up(api.ErrDeep); return 1 }); n != 0 || e != api.ErrDeep {
		t.Errorf("Up = %d, %d", n, e)
	}
	if n, e := give.Caught(func() int { give.UpOn(api.ErrEnd); return 1 }); n != 0 || e != api.ErrEnd {
		t.Errorf("UpOn an error = %d, %d", n, e)
	}
	if n, e := give.Caught(func() int { give.UpOn(api.OK); return 1 }); n != 1 || e != api.OK {
		t.Errorf("UpOn OK = %d, %d", n, e)
	}
}

func TestMistakesPass(t *testing.T) {
	defer func() {
		if r := recover(); r != "mistake" {
			t.Errorf("recovered %v", r)
		}
	}()
	give.Caught(func() int { panic("mistake") })
}
