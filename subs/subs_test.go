package subs_test

import (
	"fmt"
	"math/rand"
	"slices"
	"testing"

	"kiosk/api"
	"kiosk/subs"
)

func full() []api.Wish {
	var l []api.Wish
	for k := range api.MaxSubs {
		l = append(l, api.Wish{Filter: fmt.Sprintf("f%02d", k), QoS: k % 3})
	}
	return l
}

func TestCheck(t *testing.T) {
	for _, l := range [][]api.Wish{nil, {}, full(), {{Filter: "#"}, {Filter: "+", QoS: 2}, {Filter: "a"}}} {
		if e := subs.Check(l); e != api.OK {
			t.Errorf("%v: %v", l, e)
		}
	}
	for _, l := range [][]api.Wish{
		append(full(), api.Wish{Filter: "g"}), {{Filter: "b"}, {Filter: "a"}}, {{Filter: "a"}, {Filter: "a"}}, {{Filter: ""}}, {{Filter: "a#"}}, {{Filter: "a", QoS: 3}}, {{Filter: "a", QoS: -1}}, {{Filter: "a"}, {Filter: "b+"}},
	} {
		if e := subs.Check(l); e != api.ErrForm {
			t.Errorf("%v: %v", l, e)
		}
		if m, e := subs.Add(l, api.Wish{Filter: "x"}); m != nil || e != api.ErrForm {
			t.Errorf("%v: %v, %v", l, m, e)
		}
		if m, e := subs.Drop(l, "nothing"); m != nil || e != api.ErrForm {
			t.Errorf("%v: %v, %v", l, m, e)
		}
		if q, e := subs.Match(l, "nothing"); q != 0 || e != api.ErrForm {
			t.Errorf("%v: %v, %v", l, q, e)
		}
	}
}

func TestAddAndDrop(t *testing.T) {
	l := full()
	for _, w := range []api.Wish{{Filter: ""}, {Filter: "a+"}, {Filter: "a", QoS: 3}, {Filter: "a", QoS: -1}} {
		for _, l := range [][]api.Wish{nil, full()} {
			if m, e := subs.Add(l, w); m != nil || e != api.ErrForm {
				t.Errorf("%v: %v, %v", w, m, e)
			}
		}
	}
	if m, e := subs.Add(l, api.Wish{Filter: "f"}); m != nil || e != api.ErrFull {
		t.Error(m, e)
	}
	m, e := subs.Add(l, api.Wish{Filter: "f05", QoS: 1})
	want := full()
	want[5].QoS = 1
	if !slices.Equal(m, want) || e != api.OK || !slices.Equal(l, full()) {
		t.Error(m, e)
	}
	m[0].Filter = "x"
	for k := range l {
		m, e := subs.Drop(l, l[k].Filter)
		if !slices.Equal(m, slices.Delete(full(), k, k+1)) || e != api.OK || !slices.Equal(l, full()) {
			t.Error(k, m, e)
		}
		for _, w := range []api.Wish{{Filter: "#"}, {Filter: "f07x", QoS: 2}, {Filter: "zz"}} {
			n, e := subs.Add(m, w)
			want := append(slices.Delete(full(), k, k+1), w)
			slices.SortFunc(want, func(a, b api.Wish) int {
				if a.Filter < b.Filter {
					return -1
				}
				return 1
			})
			if !slices.Equal(n, want) || e != api.OK {
				t.Error(k, n, e)
			}
		}
	}
	for _, f := range []string{"", "f", "f16", "+", "a+", "\xff"} {
		if m, e := subs.Drop(l, f); m != nil || e != api.ErrNone {
			t.Errorf("%q: %v, %v", f, m, e)
		}
	}
	if m, e := subs.Drop([]api.Wish{{Filter: "a"}}, "a"); len(m) != 0 || e != api.OK {
		t.Error(m, e)
	}
}

func TestMatch(t *testing.T) {
	l := []api.Wish{{Filter: "+", QoS: 1}, {Filter: "a/#", QoS: 0}, {Filter: "b", QoS: 2}}
	for _, c := range []struct {
		t string
		q int
		e api.Errno
	}{{"b", 2, 0}, {"a", 1, 0}, {"a/x", 0, 0}, {"c/d", 0, api.ErrNone}, {"$b", 0, api.ErrNone}, {"", 0, api.ErrForm}, {"+", 0, api.ErrForm}, {"a/#", 0, api.ErrForm}} {
		if q, e := subs.Match(l, c.t); q != c.q || e != c.e {
			t.Errorf("%q: %d, %v", c.t, q, e)
		}
	}
	if _, e := subs.Match(nil, "a"); e != api.ErrNone {
		t.Error(e)
	}
	if q, e := subs.Match([]api.Wish{{Filter: "#", QoS: 2}, {Filter: "+", QoS: 1}}, "a"); q != 2 || e != api.OK {
		t.Error(q, e)
	}
}

// TestOrder: in whatever order subscriptions are added, the list is the same.
func TestOrder(t *testing.T) {
	r := rand.New(rand.NewSource(1))
	for range 200 {
		var l []api.Wish
		for _, k := range r.Perm(api.MaxSubs) {
			l, _ = subs.Add(l, api.Wish{Filter: full()[k].Filter, QoS: r.Intn(3)})
			l, _ = subs.Add(l, full()[k])
		}
		if !slices.Equal(l, full()) || subs.Check(l) != api.OK {
			t.Fatal(l)
		}
	}
}
