package span_test

import (
	"math"
	"math/rand"
	"testing"

	"kiosk/api"
	"kiosk/span"
)

const top = 1<<32 - 1

func TestAddAndDiff(t *testing.T) {
	for _, c := range [][3]int{{0, 0, 0}, {top, 1, 0}, {0, -1, top}, {5, 1 << 32, 5}, {-3, 1, top - 1}, {1<<63 - 1, 1, 0}, {-1 << 63, -1, top}, {7, -1 << 40, 7}, {1 << 31, 1 << 31, 0}} {
		if v := span.Add(c[0], c[1]); v != c[2] {
			t.Errorf("Add(%d, %d): %d", c[0], c[1], v)
		}
	}
	for _, c := range [][3]int{{0, top, 1}, {1 << 31, 0, -1 << 31}, {0, 1 << 31, -1 << 31}, {1<<31 - 1, 0, 1<<31 - 1}, {0, 1<<31 - 1, 1 - 1<<31}, {5, 5, 0}, {5, 6, -1}, {-1, 0, -1}, {1 << 32, 0, 0}, {-1 << 63, 1<<63 - 1, 1}} {
		if v := span.Diff(c[0], c[1]); v != c[2] {
			t.Errorf("Diff(%d, %d): %d", c[0], c[1], v)
		}
	}
}

func TestOf(t *testing.T) {
	for _, c := range []struct {
		s, n int
		p    complex128
		e    api.Errno
	}{
		{0, 0, 0, api.OK}, {5, 7, 5 + 7i, api.OK}, {top, 1 << 16, top + 65536i, api.OK},
		{-1, 1, 0, api.ErrForm}, {1 << 32, 1, 0, api.ErrForm}, {1, -1, 0, api.ErrForm}, {1, 1<<16 + 1, 0, api.ErrForm}, {1 << 62, 1 << 62, 0, api.ErrForm},
	} {
		p, e := span.Of(c.s, c.n)
		if p != c.p || e != c.e {
			t.Errorf("Of(%d, %d): %v, %v", c.s, c.n, p, e)
		}
		if s, n, e := span.Parts(p); c.e == api.OK && (s != c.s || n != c.n || e != api.OK) {
			t.Errorf("Parts(%v): %d, %d, %v", p, s, n, e)
		}
	}
}

// wrong are numbers that are no spans.
func wrong() []complex128 {
	var l []complex128
	for _, x := range []float64{-1, 0.5, 65537, 1 << 32, 1e300, -0.001, math.NaN(), math.Inf(1), math.Inf(-1)} {
		l = append(l, complex(3, x))
		if x != 65537 {
			l = append(l, complex(x, 3))
		}
	}
	return append(l, complex(math.NaN(), math.NaN()))
}

func TestWrongSpans(t *testing.T) {
	good, _ := span.Of(3, 3)
	for _, p := range wrong() {
		if s, n, e := span.Parts(p); s != 0 || n != 0 || e != api.ErrForm {
			t.Errorf("Parts(%v): %d, %d, %v", p, s, n, e)
		}
		if ok, e := span.Has(p, 3); ok || e != api.ErrForm {
			t.Errorf("Has(%v): %v, %v", p, ok, e)
		}
		if q, e := span.Meet(p, good); q != 0 || e != api.ErrForm {
			t.Errorf("Meet(%v, good): %v, %v", p, q, e)
		}
		if q, e := span.Meet(good, p); q != 0 || e != api.ErrForm {
			t.Errorf("Meet(good, %v): %v, %v", p, q, e)
		}
	}
}

func TestHas(t *testing.T) {
	for _, c := range []struct {
		s, n, x int
		ok      bool
		e       api.Errno
	}{
		{5, 3, 4, false, 0}, {5, 3, 5, true, 0}, {5, 3, 7, true, 0}, {5, 3, 8, false, 0}, {5, 0, 5, false, 0},
		{top, 2, top, true, 0}, {top, 2, 0, true, 0}, {top, 2, 1, false, 0}, {top, 1 << 16, 65534, true, 0}, {top, 1 << 16, 65535, false, 0},
		{0, 1, -1, false, api.ErrForm}, {0, 1, 1 << 32, false, api.ErrForm},
	} {
		p, _ := span.Of(c.s, c.n)
		if ok, e := span.Has(p, c.x); ok != c.ok || e != c.e {
			t.Errorf("%v: %v, %v", c, ok, e)
		}
	}
}

func TestMeet(t *testing.T) {
	for _, c := range [][6]int{
		{0, 10, 5, 10, 5, 5}, {5, 10, 0, 10, 5, 5}, {0, 10, 3, 2, 3, 2}, {3, 2, 0, 10, 3, 2}, {0, 5, 5, 5, 0, 0}, {5, 5, 0, 5, 0, 0}, {7, 0, 0, 50, 0, 0}, {0, 50, 7, 0, 0, 0},
		{top, 5, 1, 9, 1, 3}, {1, 9, top, 5, 1, 3}, {top, 3, top - 1, 3, top, 2}, {top - 1, 65536, 65000, 65536, 65000, 534}, {0, 1 << 16, 0, 1 << 16, 0, 1 << 16},
		{1 << 31, 9, 0, 9, 0, 0}, {0, 9, 1 << 31, 9, 0, 0},
	} {
		p, _ := span.Of(c[0], c[1])
		q, _ := span.Of(c[2], c[3])
		want, _ := span.Of(c[4], c[5])
		if got, e := span.Meet(p, q); got != want || e != api.OK {
			t.Errorf("%v: %v, %v", c, got, e)
		}
	}
}

// TestMeetByHas: each number of a meeting is in both spans, and no other is.
func TestMeetByHas(t *testing.T) {
	r := rand.New(rand.NewSource(1))
	for range 2000 {
		base := r.Intn(3) * (1 << 31)
		p, _ := span.Of(span.Add(base, r.Intn(30)-15), r.Intn(20))
		q, _ := span.Of(span.Add(base, r.Intn(30)-15), r.Intn(20))
		m, e := span.Meet(p, q)
		if e != api.OK {
			t.Fatal(e)
		}
		_, n, _ := span.Parts(m)
		for k := range 80 {
			s := span.Add(base, k-40)
			a, _ := span.Has(p, s)
			b, _ := span.Has(q, s)
			c, _ := span.Has(m, s)
			if c != (a && b) {
				t.Fatalf("%v and %v: %v, %d", p, q, m, s)
			}
			if c {
				n--
			}
		}
		if n != 0 {
			t.Fatalf("%v and %v: %v", p, q, m)
		}
	}
}
