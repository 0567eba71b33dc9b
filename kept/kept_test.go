package kept_test

import (
	"fmt"
	"math/rand"
	"slices"
	"strings"
	"testing"

	"kiosk/api"
	"kiosk/kept"
)

func m(topic, payload string, qos int) api.Message {
	return api.Message{Topic: topic, Payload: payload, QoS: qos, Retain: true}
}

func full() []api.Message {
	var l []api.Message
	for k := range api.MaxKept {
		l = append(l, m(fmt.Sprintf("t%02d", k), "p", k%3))
	}
	return l
}

var long = strings.Repeat("x", api.MaxPayload+1)

func TestCheck(t *testing.T) {
	for _, l := range [][]api.Message{nil, {}, full(), {m("$a", "\x00\xff", 0), m("a", long[1:], 2)}} {
		if e := kept.Check(l); e != api.OK {
			t.Errorf("%v: %v", l, e)
		}
	}
	for _, l := range [][]api.Message{
		append(full(), m("u", "p", 0)), {m("b", "p", 0), m("a", "p", 0)}, {m("a", "p", 0), m("a", "p", 0)}, {m("", "p", 0)}, {m("a/+", "p", 0)}, {m("a", "", 0)}, {m("a", long, 0)}, {m("a", "p", 3)}, {m("a", "p", -1)}, {{Topic: "a", Payload: "p"}},
	} {
		if e := kept.Check(l); e != api.ErrForm {
			t.Errorf("%v: %v", l, e)
		}
		if o, e := kept.Put(l, m("x", "p", 0)); o != nil || e != api.ErrForm {
			t.Errorf("%v: %v, %v", l, o, e)
		}
		if o, e := kept.Match(l, "#"); o != nil || e != api.ErrForm {
			t.Errorf("%v: %v, %v", l, o, e)
		}
	}
}

func TestPut(t *testing.T) {
	for _, x := range []api.Message{m("", "p", 0), m("#", "p", 0), m("a", long, 0), m("a", "p", 3), m("a", "p", -1), {Topic: "a", Payload: "p"}, {Topic: "a"}, m("+", "", 0), m("a", "", 3)} {
		for _, l := range [][]api.Message{nil, full()} {
			if o, e := kept.Put(l, x); o != nil || e != api.ErrForm {
				t.Errorf("%v: %v, %v", x, o, e)
			}
		}
	}
	l := full()
	if o, e := kept.Put(l, m("t", "p", 0)); o != nil || e != api.ErrFull {
		t.Error(o, e)
	}
	o, e := kept.Put(l, m("t", "", 0))
	if !slices.Equal(o, l) || e != api.OK {
		t.Error(o, e)
	}
	o, e = kept.Put(l, m("t05", "new", 0))
	want := full()
	want[5] = m("t05", "new", 0)
	if !slices.Equal(o, want) || e != api.OK || !slices.Equal(l, full()) {
		t.Error(o, e)
	}
	o, e = kept.Put(l, m("t05", "", 2))
	if !slices.Equal(o, slices.Delete(full(), 5, 6)) || e != api.OK || !slices.Equal(l, full()) {
		t.Error(o, e)
	}
	o, e = kept.Put(o, m("t05x", "p", 1))
	want[5] = m("t05x", "p", 1)
	if !slices.Equal(o, want) || e != api.OK {
		t.Error(o, e)
	}
	o, _ = kept.Put(nil, m("b", "1", 0))
	o, _ = kept.Put(o, m("b", "3", 1))
	if !slices.Equal(o, []api.Message{m("b", "3", 1)}) {
		t.Error(o)
	}
	if o, e = kept.Put(o, m("b", "", 0)); len(o) != 0 || e != api.OK {
		t.Error(o, e)
	}
}

func TestMatch(t *testing.T) {
	l := []api.Message{m("$s", "1", 0), m("a", "2", 1), m("a/b", "3", 2), m("b", "4", 0)}
	for _, c := range []struct {
		f    string
		want []int
	}{{"#", []int{1, 2, 3}}, {"a/#", []int{1, 2}}, {"+", []int{1, 3}}, {"$s", []int{0}}, {"c", nil}, {"+/b", []int{2}}} {
		var want []api.Message
		for _, k := range c.want {
			want = append(want, l[k])
		}
		o, e := kept.Match(l, c.f)
		if !slices.Equal(o, want) || e != api.OK {
			t.Errorf("%q: %v, %v", c.f, o, e)
		}
		clear(o)
	}
	if l[1] != m("a", "2", 1) {
		t.Error("the argument was changed")
	}
	for _, f := range []string{"", "a+", "#/a", "\xff"} {
		if o, e := kept.Match(l, f); o != nil || e != api.ErrForm {
			t.Errorf("%q: %v, %v", f, o, e)
		}
	}
}

// TestLast: there is the last message of every topic, and no other.
func TestLast(t *testing.T) {
	r := rand.New(rand.NewSource(1))
	for range 100 {
		var l []api.Message
		last := map[string]api.Message{}
		for n := range 200 {
			x := m(fmt.Sprint("t", r.Intn(24)), strings.Repeat("p", r.Intn(3)), n%3)
			o, e := kept.Put(l, x)
			if _, there := last[x.Topic]; (e == api.ErrFull) != (x.Payload != "" && !there && len(last) == api.MaxKept) {
				t.Fatal(e, len(last))
			}
			if e != api.OK {
				continue
			}
			l = o
			last[x.Topic] = x
			if x.Payload == "" {
				delete(last, x.Topic)
			}
			if kept.Check(l) != api.OK || len(l) != len(last) {
				t.Fatal(l)
			}
			for _, y := range l {
				if last[y.Topic] != y {
					t.Fatal(y)
				}
			}
		}
	}
}
