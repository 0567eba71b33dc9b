package outbox_test

import (
	"fmt"
	"math/rand"
	"slices"
	"strings"
	"testing"

	"kiosk/api"
	"kiosk/outbox"
)

func m(topic string, qos int) api.Message {
	return api.Message{Topic: topic, Payload: "p", QoS: qos}
}

func fl(id int, topic string, qos int, rec bool) api.Flight {
	return api.Flight{ID: id, Message: m(topic, qos), Rec: rec}
}

func same(a, b api.Outbox) bool {
	return a.Last == b.Last && slices.Equal(a.Flight, b.Flight) && slices.Equal(a.Queue, b.Queue)
}

// showPackets tells packets as "publish topic qos id;", with "again" if Dup, "kept" if Retain; and "release id;".
func showPackets(l []api.Mq) string {
	s := ""
	for _, p := range l {
		switch p.Kind {
		case api.MqPublish:
			s += fmt.Sprintf("publish %s %d %d", p.Topic, p.QoS, p.ID)
			if p.Dup {
				s += " again"
			}
			if p.Retain {
				s += " kept"
			}
			if p.Payload != "p" {
				s += " with another payload"
			}
			s += ";"
		case api.MqPubrel:
			s += fmt.Sprintf("release %d;", p.ID)
		default:
			s += "?"
		}
	}
	return s
}

func full() api.Outbox {
	o := api.Outbox{Last: 4}
	for k := range api.MaxWindowQ {
		o.Flight = append(o.Flight, fl(k+1, fmt.Sprint("f", k), 1+k%2, false))
	}
	for k := range api.MaxQueue {
		o.Queue = append(o.Queue, m(fmt.Sprint("q", k), 1+k%2))
	}
	return o
}

func TestCheck(t *testing.T) {
	for i, o := range []api.Outbox{
		{}, {Last: 65535}, full(), {Flight: []api.Flight{fl(65535, "+\x00\xff", 2, true), fl(1, strings.Repeat("x", 64), 1, false)}}, {Queue: []api.Message{{Topic: "a", Payload: strings.Repeat("x", 128), QoS: 2, Retain: true}}},
	} {
		if e := outbox.Check(o); e != api.OK {
			t.Errorf("%d: %v", i, e)
		}
	}
	five, nine := full(), full()
	five.Flight = append(five.Flight, fl(9, "a", 1, false))
	nine.Queue = append(nine.Queue, m("a", 1))
	for i, o := range []api.Outbox{
		{Last: -1}, {Last: 65536}, five, nine,
		{Flight: []api.Flight{fl(0, "a", 1, false)}}, {Flight: []api.Flight{fl(65536, "a", 1, false)}}, {Flight: []api.Flight{fl(3, "a", 1, false), fl(3, "b", 1, false)}}, {Flight: []api.Flight{fl(1, "a", 1, true)}},
		{Flight: []api.Flight{fl(1, "a", 0, false)}}, {Flight: []api.Flight{fl(1, "", 1, false)}}, {Flight: []api.Flight{fl(1, strings.Repeat("x", 65), 1, false)}}, {Flight: []api.Flight{fl(1, "a", 3, true)}},
		{Queue: []api.Message{m("", 1)}}, {Queue: []api.Message{m("a", 1), m("a", 0)}}, {Queue: []api.Message{m("a", 3)}}, {Queue: []api.Message{m("a", -1)}}, {Queue: []api.Message{{Topic: "a", Payload: strings.Repeat("x", 129), QoS: 1}}},
	} {
		if e := outbox.Check(o); e != api.ErrForm {
			t.Errorf("%d: %v", i, e)
		}
		for k, f := range []func(api.Outbox) (api.Outbox, []api.Mq, api.Errno){
			func(o api.Outbox) (api.Outbox, []api.Mq, api.Errno) { return outbox.Offer(o, m("a", 1), true) }, outbox.Resume,
			func(o api.Outbox) (api.Outbox, []api.Mq, api.Errno) { return outbox.Ack(o, 99) },
			func(o api.Outbox) (api.Outbox, []api.Mq, api.Errno) { return outbox.Rec(o, 99) },
			func(o api.Outbox) (api.Outbox, []api.Mq, api.Errno) { return outbox.Comp(o, 99) },
		} {
			if x, l, e := f(o); !same(x, api.Outbox{}) || l != nil || e != api.ErrForm {
				t.Errorf("%d, %d: %v", i, k, e)
			}
		}
	}
}

func TestOffer(t *testing.T) {
	room := full()
	room.Flight = room.Flight[1:]
	ids := api.Outbox{Last: 65534, Flight: []api.Flight{fl(65535, "a", 1, false), fl(1, "b", 1, false)}, Queue: []api.Message{m("c", 2)}}
	for i, c := range []struct {
		o    api.Outbox
		m    api.Message
		up   bool
		want api.Outbox
		l    string
		e    api.Errno
	}{
		{api.Outbox{}, m("a", 1), false, api.Outbox{Queue: []api.Message{m("a", 1)}}, "", api.OK},
		{api.Outbox{}, m("a", 1), true, api.Outbox{Last: 1, Flight: []api.Flight{fl(1, "a", 1, false)}}, "publish a 1 1;", api.OK},
		{api.Outbox{}, api.Message{Topic: "a", Payload: "p", QoS: 2, Retain: true}, true, api.Outbox{Last: 1, Flight: []api.Flight{{ID: 1, Message: api.Message{Topic: "a", Payload: "p", QoS: 2, Retain: true}}}}, "publish a 2 1 kept;", api.OK},
		{api.Outbox{Queue: []api.Message{m("a", 1)}}, m("b", 2), true, api.Outbox{Last: 2, Flight: []api.Flight{fl(1, "a", 1, false), fl(2, "b", 2, false)}}, "publish a 1 1;publish b 2 2;", api.OK},
		{ids, m("d", 1), true, api.Outbox{Last: 3, Flight: []api.Flight{fl(65535, "a", 1, false), fl(1, "b", 1, false), fl(2, "c", 2, false), fl(3, "d", 1, false)}}, "publish c 2 2;publish d 1 3;", api.OK},
		{full(), m("a", 1), true, api.Outbox{}, "", api.ErrFull}, {full(), m("a", 1), false, api.Outbox{}, "", api.ErrFull}, {room, m("a", 1), false, api.Outbox{}, "", api.ErrFull},
		{room, m("a", 1), true, api.Outbox{Last: 5, Flight: append(slices.Clone(room.Flight), fl(5, "q0", 1, false)), Queue: append(slices.Clone(room.Queue[1:]), m("a", 1))}, "publish q0 1 5;", api.OK},
		{full(), m("a", 0), true, api.Outbox{}, "", api.ErrForm}, {api.Outbox{}, m("", 1), true, api.Outbox{}, "", api.ErrForm}, {api.Outbox{}, m("a", 3), false, api.Outbox{}, "", api.ErrForm},
		{api.Outbox{}, m(strings.Repeat("x", 65), 1), true, api.Outbox{}, "", api.ErrForm}, {api.Outbox{}, api.Message{Topic: "a", QoS: 1, Payload: strings.Repeat("x", 129)}, true, api.Outbox{}, "", api.ErrForm},
	} {
		o, l, e := outbox.Offer(c.o, c.m, c.up)
		if !same(o, c.want) || showPackets(l) != c.l || e != c.e {
			t.Errorf("%d: %v, %s, %v", i, o, showPackets(l), e)
		}
	}
}

func TestAckRecComp(t *testing.T) {
	o := api.Outbox{Last: 4, Flight: []api.Flight{fl(1, "a", 1, false), fl(2, "b", 2, false), fl(3, "c", 2, true), fl(4, "d", 1, false)}, Queue: []api.Message{m("e", 1), m("f", 2)}}
	without := func(k int) api.Outbox {
		x := api.Outbox{Last: 5, Flight: slices.Delete(slices.Clone(o.Flight), k, k+1), Queue: []api.Message{m("f", 2)}}
		x.Flight = append(x.Flight, fl(5, "e", 1, false))
		return x
	}
	rec := o
	rec.Flight = slices.Clone(o.Flight)
	rec.Flight[1].Rec = true
	was := fmt.Sprint(o)
	for i, c := range []struct {
		f    func(api.Outbox, int) (api.Outbox, []api.Mq, api.Errno)
		id   int
		want api.Outbox
		l    string
		e    api.Errno
	}{
		{outbox.Ack, 1, without(0), "publish e 1 5;", api.OK}, {outbox.Ack, 4, without(3), "publish e 1 5;", api.OK},
		{outbox.Ack, 2, api.Outbox{}, "", api.ErrNone}, {outbox.Ack, 3, api.Outbox{}, "", api.ErrNone}, {outbox.Ack, 5, api.Outbox{}, "", api.ErrNone}, {outbox.Ack, 0, api.Outbox{}, "", api.ErrNone}, {outbox.Ack, -1, api.Outbox{}, "", api.ErrNone},
		{outbox.Rec, 2, rec, "release 2;", api.OK}, {outbox.Rec, 3, o, "release 3;", api.OK}, {outbox.Rec, 1, api.Outbox{}, "", api.ErrNone}, {outbox.Rec, 9, api.Outbox{}, "", api.ErrNone},
		{outbox.Comp, 3, without(2), "publish e 1 5;", api.OK}, {outbox.Comp, 2, api.Outbox{}, "", api.ErrNone}, {outbox.Comp, 1, api.Outbox{}, "", api.ErrNone}, {outbox.Comp, 1 << 40, api.Outbox{}, "", api.ErrNone},
	} {
		x, l, e := c.f(o, c.id)
		if !same(x, c.want) || showPackets(l) != c.l || e != c.e {
			t.Errorf("%d: %v, %s, %v", i, x, showPackets(l), e)
		}
		clear(x.Flight)
		clear(x.Queue)
		if fmt.Sprint(o) != was {
			t.Fatal("the argument was changed")
		}
	}
}

func TestResume(t *testing.T) {
	o := api.Outbox{Queue: []api.Message{m("a", 1), m("b", 2)}}
	x, l, e := outbox.Resume(o)
	if !same(x, api.Outbox{Last: 2, Flight: []api.Flight{fl(1, "a", 1, false), fl(2, "b", 2, false)}}) || showPackets(l) != "publish a 1 1;publish b 2 2;" || e != api.OK {
		t.Error(x, showPackets(l), e)
	}
	x, l, e = outbox.Resume(x)
	if !same(x, api.Outbox{Last: 2, Flight: []api.Flight{fl(1, "a", 1, false), fl(2, "b", 2, false)}}) || showPackets(l) != "publish a 1 1 again;publish b 2 2 again;" || e != api.OK {
		t.Error(x, showPackets(l), e)
	}
	o = api.Outbox{Last: 65535, Flight: []api.Flight{fl(9, "a", 2, true), {ID: 1, Message: api.Message{Topic: "b", Payload: "p", QoS: 1, Retain: true}}, fl(3, "c", 2, false)}, Queue: []api.Message{m("d", 1), m("e", 1)}}
	x, l, e = outbox.Resume(o)
	if !same(x, api.Outbox{Last: 2, Flight: append(slices.Clone(o.Flight), fl(2, "d", 1, false)), Queue: []api.Message{m("e", 1)}}) || showPackets(l) != "release 9;publish b 1 1 again kept;publish c 2 3 again;publish d 1 2;" || e != api.OK {
		t.Error(x, showPackets(l), e)
	}
	if x, l, e = outbox.Resume(api.Outbox{}); !same(x, api.Outbox{}) || l != nil || e != api.OK {
		t.Error(x, l, e)
	}
}

// TestAll: every message comes once by Offer, in order, and goes only by Ack and Comp; identifiers never meet.
func TestAll(t *testing.T) {
	r := rand.New(rand.NewSource(1))
	for range 300 {
		o := api.Outbox{Last: []int{0, 65533}[r.Intn(2)]}
		var offered, sent []string
		gone := 0
		for n := range 200 {
			var l []api.Mq
			var e api.Errno
			x := o
			id := 0
			if len(o.Flight) > 0 {
				id = o.Flight[r.Intn(len(o.Flight))].ID
			}
			switch r.Intn(6) {
			case 0, 1:
				topic := fmt.Sprint("t", n)
				if x, l, e = outbox.Offer(o, m(topic, 1+r.Intn(2)), r.Intn(2) > 0); e == api.OK {
					offered = append(offered, topic)
				}
			case 2:
				if x, l, e = outbox.Ack(o, id); e == api.OK {
					gone++
				}
			case 3:
				x, l, e = outbox.Rec(o, id)
			case 4:
				if x, l, e = outbox.Comp(o, id); e == api.OK {
					gone++
				}
			case 5:
				x, l, e = outbox.Resume(o)
			}
			if e != api.OK {
				continue
			}
			o = x
			for _, p := range l {
				if p.Kind == api.MqPublish && !p.Dup {
					sent = append(sent, p.Topic)
				}
			}
			if outbox.Check(o) != api.OK || len(o.Flight)+len(o.Queue)+gone != len(offered) || len(sent)+len(o.Queue) != len(offered) || !slices.Equal(sent, offered[:len(sent)]) {
				t.Fatal(o, offered, sent, gone)
			}
		}
	}
}

// TestArgumentsStay: neither an outbox nor the room behind its lists is changed.
func TestArgumentsStay(t *testing.T) {
	flight := append(make([]api.Flight, 0, 9), fl(1, "a", 2, false), fl(2, "b", 1, false))
	queue := append(make([]api.Message, 0, 20), m("c", 1), m("d", 2), m("e", 1))
	o := api.Outbox{Last: 2, Flight: flight, Queue: queue}
	was := fmt.Sprint(o, flight[:9], queue[:20])
	for k, f := range []func() (api.Outbox, []api.Mq, api.Errno){
		func() (api.Outbox, []api.Mq, api.Errno) { return outbox.Offer(o, m("x", 1), true) },
		func() (api.Outbox, []api.Mq, api.Errno) { return outbox.Offer(o, m("x", 1), false) },
		func() (api.Outbox, []api.Mq, api.Errno) { return outbox.Resume(o) },
		func() (api.Outbox, []api.Mq, api.Errno) { return outbox.Ack(o, 2) },
		func() (api.Outbox, []api.Mq, api.Errno) { return outbox.Rec(o, 1) },
	} {
		x, _, e := f()
		if e != api.OK || fmt.Sprint(o, flight[:9], queue[:20]) != was {
			t.Errorf("%d: %v: an argument was changed", k, e)
		}
		clear(x.Flight)
		clear(x.Queue)
		if fmt.Sprint(o, flight[:9], queue[:20]) != was {
			t.Errorf("%d: something is shared", k)
		}
	}
}
