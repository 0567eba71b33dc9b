package timer_test

import (
	"testing"

	"kiosk/api"
	"kiosk/timer"
)

var wrong = []api.Timer{
	{On: true, Left: -1}, {On: true, Left: api.MaxWait + 1}, {On: true, Wait: -1}, {On: true, Wait: api.MaxWait + 1}, {On: true, Tries: -1}, {On: true, Tries: api.MaxTries + 1},
	{Left: 1}, {Wait: -1}, {Tries: api.MaxTries + 1}, {On: true, Left: 1 << 62, Wait: 1 << 62, Tries: 1 << 62},
}

func TestCheck(t *testing.T) {
	for _, x := range []api.Timer{{}, {On: true}, {On: true, Left: api.MaxWait, Wait: api.MaxWait, Tries: api.MaxTries}, {Wait: 7, Tries: 3}, {On: true, Left: 9, Wait: 2}} {
		if e := timer.Check(x); e != api.OK {
			t.Errorf("%v: %v", x, e)
		}
	}
	for _, x := range wrong {
		if e := timer.Check(x); e != api.ErrForm {
			t.Errorf("%v: %v", x, e)
		}
		if y, over, e := timer.Tick(x); y != (api.Timer{}) || over || e != api.ErrForm {
			t.Errorf("Tick(%v): %v, %v, %v", x, y, over, e)
		}
		if y, e := timer.Back(x); y != (api.Timer{}) || e != api.ErrForm {
			t.Errorf("Back(%v): %v, %v", x, y, e)
		}
	}
}

func TestStart(t *testing.T) {
	for _, n := range []int{0, -1, api.MaxWait + 1, 1 << 62} {
		if x, e := timer.Start(n); x != (api.Timer{}) || e != api.ErrForm {
			t.Errorf("%d: %v, %v", n, x, e)
		}
	}
	for _, n := range []int{1, 3, api.MaxWait} {
		if x, e := timer.Start(n); x != (api.Timer{On: true, Left: n, Wait: n}) || e != api.OK {
			t.Errorf("%d: %v, %v", n, x, e)
		}
	}
}

func TestTick(t *testing.T) {
	for _, c := range []struct {
		x, y api.Timer
		over bool
	}{
		{api.Timer{On: true, Left: 3, Wait: 5, Tries: 2}, api.Timer{On: true, Left: 2, Wait: 5, Tries: 2}, false},
		{api.Timer{On: true, Left: 1, Wait: 5}, api.Timer{On: true, Wait: 5}, true},
		{api.Timer{On: true, Wait: 5}, api.Timer{On: true, Wait: 5}, true},
		{api.Timer{Wait: 5, Tries: 1}, api.Timer{Wait: 5, Tries: 1}, false},
		{api.Timer{}, api.Timer{}, false},
	} {
		if y, over, e := timer.Tick(c.x); y != c.y || over != c.over || e != api.OK {
			t.Errorf("%v: %v, %v, %v", c.x, y, over, e)
		}
	}
}

func TestBack(t *testing.T) {
	for _, c := range []struct {
		x, y api.Timer
		e    api.Errno
	}{
		{api.Timer{On: true, Left: 1, Wait: 3}, api.Timer{On: true, Left: 6, Wait: 6, Tries: 1}, api.OK},
		{api.Timer{On: true}, api.Timer{On: true, Left: 1, Wait: 1, Tries: 1}, api.OK},
		{api.Timer{On: true, Wait: 24, Tries: 7}, api.Timer{On: true, Left: 48, Wait: 48, Tries: 8}, api.OK},
		{api.Timer{On: true, Wait: 25}, api.Timer{On: true, Left: 48, Wait: 48, Tries: 1}, api.OK},
		{api.Timer{On: true, Wait: 48}, api.Timer{On: true, Left: 48, Wait: 48, Tries: 1}, api.OK},
		{api.Timer{On: true, Tries: api.MaxTries}, api.Timer{}, api.ErrState},
		{api.Timer{}, api.Timer{}, api.ErrForm},
		{api.Timer{Tries: api.MaxTries}, api.Timer{}, api.ErrForm},
	} {
		if y, e := timer.Back(c.x); y != c.y || e != c.e {
			t.Errorf("%v: %v, %v", c.x, y, e)
		}
	}
}

// TestLongerAndLonger: a timer of 3 ticks takes 3, then 6, 12 and so on, and at last there is no way back.
func TestLongerAndLonger(t *testing.T) {
	x, _ := timer.Start(api.FirstWait)
	for _, want := range []int{3, 6, 12, 24, 48, 48, 48, 48, 48} {
		for k := 1; ; k++ {
			y, over, e := timer.Tick(x)
			if e != api.OK || over != (k == want) {
				t.Fatalf("%d of %d: %v, %v", k, want, over, e)
			}
			x = y
			if over {
				break
			}
		}
		y, e := timer.Back(x)
		if e != api.OK {
			if e != api.ErrState || x.Tries != api.MaxTries {
				t.Fatal(x, e)
			}
			return
		}
		x = y
	}
	t.Error("it goes on for ever")
}
