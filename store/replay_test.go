package store

import (
	"fmt"
	"slices"
	"testing"

	"kiosk/api"
	"kiosk/record"
	"kiosk/same"
)

// entry is a record of a log, before it is sealed.
type entry struct {
	kind byte
	body []byte
}

func sealAll(l []entry) []string {
	var out []string
	var sum uint32
	for _, x := range l {
		var b []byte
		b, sum = seal(sum, x.kind, x.body)
		out = append(out, string(b))
	}
	return out
}

func put(b api.Broker) []byte { return appendPut(nil, b) }

func session(name string) api.Broker {
	return api.Broker{Sessions: []api.Session{{Client: name}}}
}

// TestReplay: records that are sealed as they should be, but tell what no store would.
func TestReplay(t *testing.T) {
	whole, _ := record.Bytes(session("a"))
	other, _ := record.Bytes(session("b"))
	message := api.Broker{Kept: []api.Message{{Topic: "k", Payload: "p", Retain: true}}}
	var many []entry
	for k := range api.MaxSessions + 1 {
		many = append(many, entry{kindChange, put(session(fmt.Sprint(k)))})
	}
	w := entry{kindWhole, whole}
	c := entry{kindChange, put(session("b"))}
	for i, x := range []struct {
		l    []entry
		want []string // the names of the sessions, if it is right
		ok   bool
	}{
		{nil, nil, true}, {[]entry{w}, []string{"a"}, true}, {[]entry{c}, []string{"b"}, true}, {[]entry{w, c}, []string{"a", "b"}, true},
		{[]entry{{kindPart, whole[:5]}, {kindWhole, whole[5:]}, c}, []string{"a", "b"}, true}, {[]entry{{kindPart, whole[:5]}, {kindPart, whole[5:9]}, {kindWhole, whole[9:]}}, []string{"a"}, true},
		{[]entry{w, {kindChange, appendItem(nil, doDropSession, []byte("a"))}}, nil, true}, {[]entry{w, {kindChange, appendItem(put(session("b")), doDropSession, []byte("a"))}}, []string{"b"}, true},
		{[]entry{{kindChange, put(message)}, {kindChange, appendItem(nil, doDropKept, []byte("k"))}}, nil, true},
		{many[:api.MaxSessions], []string{"0", "1", "2", "3", "4", "5", "6", "7"}, true},
		{many, nil, false},
		{[]entry{w, w}, nil, false}, {[]entry{c, w}, nil, false}, {[]entry{w, {kindWhole, other}}, nil, false}, {[]entry{w, c, {kindPart, whole[:5]}, {kindWhole, whole[5:]}}, nil, false},
		{[]entry{{kindPart, whole}}, nil, false}, {[]entry{{kindPart, whole[:5]}}, nil, false}, {[]entry{{kindPart, whole[:5]}, c}, nil, false}, {[]entry{{kindPart, whole[:5]}, c, {kindWhole, whole[5:]}}, nil, false}, {[]entry{w, {kindPart, nil}}, nil, false},
		{[]entry{{kindWhole, whole[1:]}}, nil, false}, {[]entry{{kindWhole, nil}}, nil, false}, {[]entry{{'x', whole}}, nil, false}, {[]entry{w, {'x', nil}}, nil, false}, {[]entry{{0, nil}}, nil, false},
		{[]entry{w, {kindChange, c.body[:2]}}, nil, false}, {[]entry{w, {kindChange, c.body[:len(c.body)-1]}}, nil, false}, {[]entry{w, {kindChange, append(slices.Clone(c.body), 0)}}, nil, false}, {[]entry{w, {kindChange, append(slices.Clone(c.body), 9, 0, 0)}}, nil, false},
		{[]entry{w, {kindChange, appendItem(nil, doPut, whole[1:])}}, nil, false}, {[]entry{w, {kindChange, appendItem(nil, doPut, nil)}}, nil, false},
		{[]entry{w, {kindChange, appendItem(nil, doDropSession, []byte("b"))}}, nil, false}, {[]entry{w, {kindChange, appendItem(nil, doDropKept, []byte("a"))}}, nil, false}, {[]entry{w, {kindChange, appendItem(nil, 0, nil)}}, nil, false}, {[]entry{w, {kindChange, appendItem(nil, 4, nil)}}, nil, false},
	} {
		b, sum, e := replay(sealAll(x.l))
		if (e == api.OK) != x.ok || e != api.OK && (e != api.ErrForm || sum != 0 || !same.Broker(b, api.Broker{})) {
			t.Errorf("%d: %v, %v", i, b, e)
		}
		var names []string
		for _, s := range b.Sessions {
			names = append(names, s.Client)
		}
		if !slices.Equal(names, x.want) || len(b.Kept) > 0 {
			t.Errorf("%d: %v", i, b)
		}
	}
	for _, s := range []string{"", "w", "\x00\x00\x00\x00", sealAll([]entry{w})[0][1:]} {
		if _, _, e := replay([]string{s}); e != api.ErrForm {
			t.Errorf("%q: %v", s, e)
		}
	}
	l := sealAll([]entry{w, c, {kindChange, put(message)}})
	for _, x := range [][]string{{l[1], l[0], l[2]}, {l[0], l[2]}, {l[0], l[2], l[1]}, {l[0], l[1], l[1]}, l[1:]} {
		if _, _, e := replay(x); e != api.ErrForm {
			t.Errorf("%q: %v", x, e)
		}
	}
}

// TestUnmade: a store that nobody opened has nothing and takes nothing.
func TestUnmade(t *testing.T) {
	var s Store
	if e := s.Save(api.Broker{}); e != api.ErrPower || !same.Broker(s.Broker(), api.Broker{}) {
		t.Error(e)
	}
}
