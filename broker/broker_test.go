package broker_test

import (
	"fmt"
	"math/rand"
	"slices"
	"strings"
	"testing"

	"kiosk/api"
	"kiosk/broker"
)

// show tells a broker, empty lists all alike.
func show(b api.Broker) string {
	return strings.ReplaceAll(fmt.Sprintf("%+v", b), "<nil>", "[]")
}

// tell tells what is said, a word a packet.
func tell(l []api.Say) string {
	var out []string
	for _, s := range l {
		p := s.Packet
		x := fmt.Sprint(s.Link, ":")
		switch {
		case s.Drop:
			x += "drop"
		case p.Kind == api.MqConnack:
			x += fmt.Sprintf("connack-%d-%v", p.Code, p.Present)
		case p.Kind == api.MqPublish:
			x += fmt.Sprintf("publish-%s-%s-%d", p.Topic, p.Payload, p.QoS)
			if p.ID > 0 {
				x += fmt.Sprint("-", p.ID)
			}
			if p.Dup {
				x += "-again"
			}
			if p.Retain {
				x += "-kept"
			}
		case p.Kind == api.MqSuback:
			x += fmt.Sprintf("suback-%d%v", p.ID, p.Codes)
		default:
			x += fmt.Sprintf("%d-%d", p.Kind, p.ID)
		}
		out = append(out, x)
	}
	return strings.Join(out, " ")
}

type tester struct {
	t *testing.T
	b api.Broker
}

// check is done after each call: what came is valid, and what was there is as it was.
func (x *tester) done(was string, c api.Broker, e api.Errno) {
	x.t.Helper()
	if e != api.OK || broker.Check(c) != api.OK {
		x.t.Fatalf("%v: %s", e, show(c))
	}
	if show(x.b) != was {
		x.t.Fatal("the argument was changed")
	}
	x.b = c
}

func (x *tester) open(links ...int) {
	x.t.Helper()
	for _, link := range links {
		was := show(x.b)
		c, e := broker.Open(x.b, link)
		x.done(was, c, e)
	}
}

func (x *tester) take(link int, p api.Mq, want string) {
	x.t.Helper()
	was := show(x.b)
	c, l, e := broker.Take(x.b, link, p)
	x.done(was, c, e)
	if got := tell(l); got != want {
		x.t.Errorf("%d, %d: %q, not %q", link, p.Kind, got, want)
	}
}

func (x *tester) lost(link int, want string) {
	x.t.Helper()
	was := show(x.b)
	c, l, e := broker.Lost(x.b, link)
	x.done(was, c, e)
	if got := tell(l); got != want {
		x.t.Errorf("lost %d: %q, not %q", link, got, want)
	}
}

func (x *tester) tick(want string) {
	x.t.Helper()
	was := show(x.b)
	c, l, e := broker.Tick(x.b)
	x.done(was, c, e)
	if got := tell(l); got != want {
		x.t.Errorf("tick: %q, not %q", got, want)
	}
}

// session is that of a client.
func (x *tester) session(client string) api.Session {
	for _, s := range x.b.Sessions {
		if s.Client == client {
			return s
		}
	}
	return api.Session{}
}

// come opens a link and connects a client on it.
func (x *tester) come(link int, client string, clean bool) {
	x.t.Helper()
	x.open(link)
	if _, _, e := broker.Take(x.b, link, connect(client, clean)); e != api.OK {
		x.t.Fatal(e)
	}
	x.b, _, _ = broker.Take(x.b, link, connect(client, clean))
}

func connect(client string, clean bool) api.Mq {
	return api.Mq{Kind: api.MqConnect, Client: client, Clean: clean}
}

func willing(client string, clean bool, w api.Will) api.Mq {
	p := connect(client, clean)
	p.Will = w
	p.Will.Is = true
	return p
}

func publish(topic, payload string, qos, id int) api.Mq {
	return api.Mq{Kind: api.MqPublish, Topic: topic, Payload: payload, QoS: qos, ID: id}
}

func keep(topic, payload string, qos, id int) api.Mq {
	p := publish(topic, payload, qos, id)
	p.Retain = true
	return p
}

func subscribe(id int, l ...api.Wish) api.Mq {
	return api.Mq{Kind: api.MqSubscribe, ID: id, Wishes: l}
}

func wish(f string, qos int) api.Wish { return api.Wish{Filter: f, QoS: qos} }

func only(kind, id int) api.Mq { return api.Mq{Kind: kind, ID: id} }

// some is a valid broker with a bit of everything.
func some() api.Broker {
	return api.Broker{
		Links: []int{3, 1 << 40},
		Sessions: []api.Session{
			{Client: "a", Clean: true, Link: 1, Subs: []api.Wish{wish("x", 1)}, In: []int{1, 65535}, Will: api.Will{Is: true, Topic: "w", QoS: 2}, Keep: 65535, Idle: 1 << 20},
			{Client: "b", Subs: []api.Wish{wish("#", 2)}, Out: api.Outbox{Last: 2, Flight: []api.Flight{{ID: 2, Message: api.Message{Topic: "t", QoS: 2}, Rec: true}}, Queue: []api.Message{{Topic: "u", QoS: 1}}}},
			{Client: strings.Repeat("z", 46), Link: 2},
		},
		Kept: []api.Message{{Topic: "k", Payload: "p", Retain: true}},
	}
}

func TestCheck(t *testing.T) {
	long := some()
	long.Sessions[0].Will.Topic, long.Sessions[0].Will.Payload = strings.Repeat("w", 64), strings.Repeat("x", 128)
	for i, b := range []api.Broker{{}, some(), long, {Links: []int{1, 2, 3, 4, 5, 6, 7, 8}}} {
		if e := broker.Check(b); e != api.OK {
			t.Errorf("%d: %v", i, e)
		}
	}
	for i, f := range []func(*api.Broker){
		func(b *api.Broker) { b.Links = []int{0} }, func(b *api.Broker) { b.Links = []int{-1} }, func(b *api.Broker) { b.Links = []int{1<<40 + 1} }, func(b *api.Broker) { b.Links = []int{4, 4} }, func(b *api.Broker) { b.Links = []int{5, 4} }, func(b *api.Broker) { b.Links = []int{2} },
		func(b *api.Broker) { b.Links = []int{11, 12, 13, 14, 15, 16, 17} }, func(b *api.Broker) { b.Links = make([]int, 99) },
		func(b *api.Broker) { b.Sessions[1].Client = "a" }, func(b *api.Broker) { b.Sessions[1].Client = "A" }, func(b *api.Broker) { b.Sessions[0].Client = "" }, func(b *api.Broker) { b.Sessions[2].Client += "z" },
		func(b *api.Broker) { b.Sessions[0].Link = -1 }, func(b *api.Broker) { b.Sessions[0].Link = 1<<40 + 1 }, func(b *api.Broker) { b.Sessions[0].Link = 3 }, func(b *api.Broker) { b.Sessions[2].Link = 1 },
		func(b *api.Broker) { b.Sessions[1].Clean = true }, func(b *api.Broker) { b.Sessions[1].Keep = 1 }, func(b *api.Broker) { b.Sessions[1].Idle = 1 }, func(b *api.Broker) { b.Sessions[1].Will = api.Will{Is: true, Topic: "w"} },
		func(b *api.Broker) { b.Sessions[0].Subs[0].QoS = 3 }, func(b *api.Broker) { b.Sessions[1].Out.Last = -1 }, func(b *api.Broker) { b.Sessions[0].In = []int{0} }, func(b *api.Broker) { b.Sessions[0].In = []int{65536} }, func(b *api.Broker) { b.Sessions[0].In = []int{2, 2} }, func(b *api.Broker) { b.Sessions[0].In = []int{2, 1} },
		func(b *api.Broker) {
			b.Sessions[0].In = nil
			for k := range api.MaxIn + 1 {
				b.Sessions[0].In = append(b.Sessions[0].In, k+1)
			}
		},
		func(b *api.Broker) { b.Sessions[0].Will.Topic = "w+" }, func(b *api.Broker) { b.Sessions[0].Will.Topic = "" }, func(b *api.Broker) { b.Sessions[0].Will.QoS = 3 }, func(b *api.Broker) { b.Sessions[0].Will.QoS = -1 }, func(b *api.Broker) { b.Sessions[0].Will.Payload = strings.Repeat("x", 129) }, func(b *api.Broker) { b.Sessions[0].Will.Is = false },
		func(b *api.Broker) { b.Sessions[0].Keep = -1 }, func(b *api.Broker) { b.Sessions[0].Keep = 65536 }, func(b *api.Broker) { b.Sessions[0].Idle = -1 }, func(b *api.Broker) { b.Sessions[0].Idle = 1<<20 + 1 },
		func(b *api.Broker) { b.Kept[0].Retain = false },
		func(b *api.Broker) {
			b.Sessions = nil
			for k := range api.MaxSessions + 1 {
				b.Sessions = append(b.Sessions, api.Session{Client: fmt.Sprint(k)})
			}
		},
	} {
		b := some()
		f(&b)
		if e := broker.Check(b); e != api.ErrForm {
			t.Errorf("%d: %v", i, e)
		}
		none := show(api.Broker{})
		if c, e := broker.Open(b, 99); show(c) != none || e != api.ErrForm {
			t.Errorf("%d: Open: %v", i, e)
		}
		if c, l, e := broker.Lost(b, 99); show(c) != none || l != nil || e != api.ErrForm {
			t.Errorf("%d: Lost: %v", i, e)
		}
		if c, l, e := broker.Take(b, 99, only(api.MqPingreq, 0)); show(c) != none || l != nil || e != api.ErrForm {
			t.Errorf("%d: Take: %v", i, e)
		}
		if c, l, e := broker.Tick(b); show(c) != none || l != nil || e != api.ErrForm {
			t.Errorf("%d: Tick: %v", i, e)
		}
		if c, e := broker.Durable(b); show(c) != none || e != api.ErrForm {
			t.Errorf("%d: Durable: %v", i, e)
		}
	}
}

func TestOpenAndLost(t *testing.T) {
	b := some()
	for _, c := range []struct {
		link int
		e    api.Errno
	}{{0, api.ErrForm}, {-1, api.ErrForm}, {1<<40 + 1, api.ErrForm}, {3, api.ErrThere}, {1 << 40, api.ErrThere}, {1, api.ErrThere}, {2, api.ErrThere}} {
		if x, e := broker.Open(b, c.link); show(x) != show(api.Broker{}) || e != c.e {
			t.Errorf("%d: %v", c.link, e)
		}
	}
	x := &tester{t, b}
	x.open(77, 4, 5, 1<<40-1)
	if !slices.Equal(x.b.Links, []int{3, 4, 5, 77, 1<<40 - 1, 1 << 40}) {
		t.Error(x.b.Links)
	}
	if c, e := broker.Open(x.b, 6); show(c) != show(api.Broker{}) || e != api.ErrFull {
		t.Error("MaxLinks:", e)
	}
	if _, e := broker.Open(x.b, 77); e != api.ErrThere {
		t.Error(e)
	}
	x.lost(77, "")
	if !slices.Equal(x.b.Links, []int{3, 4, 5, 1<<40 - 1, 1 << 40}) {
		t.Error(x.b.Links)
	}
	for _, link := range []int{0, -1, 6, 77, 1 << 62} {
		if c, l, e := broker.Lost(x.b, link); show(c) != show(api.Broker{}) || l != nil || e != api.ErrNone {
			t.Errorf("%d: %v", link, e)
		}
		if c, l, e := broker.Take(x.b, link, only(api.MqPingreq, 0)); show(c) != show(api.Broker{}) || l != nil || e != api.ErrNone {
			t.Errorf("%d: %v", link, e)
		}
		if _, _, e := broker.Take(x.b, link, api.Mq{}); e != api.ErrForm {
			t.Errorf("%d: %v", link, e)
		}
	}
	// The session of a is gone, and its will comes to b.
	x.lost(1, "")
	if len(x.b.Sessions) != 2 || len(x.b.Sessions[0].Out.Queue) != 2 || x.b.Sessions[0].Out.Queue[1] != (api.Message{Topic: "w", QoS: 2}) {
		t.Error(show(x.b))
	}
	x.lost(2, "")
	if len(x.b.Sessions) != 2 || x.b.Sessions[1].Link != 0 {
		t.Error(show(x.b))
	}
}

func TestConnect(t *testing.T) {
	x := &tester{t: t}
	x.open(1, 2, 3, 4, 5)
	x.take(1, only(api.MqPingreq, 0), "1:drop")
	x.take(2, connect("", false), "2:connack-2-false 2:drop")
	x.take(3, willing("w", false, api.Will{Topic: "a/#"}), "3:drop")
	if !slices.Equal(x.b.Links, []int{4, 5}) || len(x.b.Sessions) != 0 {
		t.Error(show(x.b))
	}
	p := willing("c", false, api.Will{Topic: "w", Payload: "gone", QoS: 1, Retain: true})
	p.KeepAlive, p.HasUser, p.User = 60, true, "u"
	x.take(4, p, "4:connack-0-false")
	if want := (api.Session{Client: "c", Link: 4, Will: p.Will, Keep: 60}); fmt.Sprint(x.session("c")) != fmt.Sprint(want) || !slices.Equal(x.b.Links, []int{5}) {
		t.Error(show(x.b))
	}
	x.take(5, connect("", true), "5:connack-0-false")
	if s := x.session("~5"); s.Link != 5 || !s.Clean {
		t.Error(show(x.b))
	}
	// A second one of that name takes the session, whose will is accepted.
	x.take(4, subscribe(1, wish("w", 1)), "4:suback-1[1]")
	x.open(6)
	x.take(6, connect("c", false), "4:drop 6:connack-0-true 6:publish-w-gone-1-1")
	if s := x.session("c"); s.Link != 6 || s.Will.Is || s.Keep != 0 || len(s.Subs) != 1 || len(x.b.Kept) != 1 {
		t.Error(show(x.b))
	}
	// A clean one gets a new session, and one that was clean leaves nothing behind.
	x.open(7)
	x.take(7, connect("c", true), "6:drop 7:connack-0-false")
	if s := x.session("c"); len(s.Subs) != 0 || len(s.Out.Flight) != 0 || s.Out.Last != 0 || !s.Clean {
		t.Error(show(x.b))
	}
	x.take(7, subscribe(1, wish("a", 1)), "7:suback-1[1]")
	x.open(8)
	x.take(8, connect("c", false), "7:drop 8:connack-0-false")
	if s := x.session("c"); len(s.Subs) != 0 || s.Clean || s.Link != 8 {
		t.Error(show(x.b))
	}
	x.take(8, connect("c", false), "8:drop") // a second CONNECT
	if s := x.session("c"); s.Link != 0 || s.Client != "c" {
		t.Error(show(x.b))
	}
	// One that calls itself as an unnamed one is called.
	x.open(9)
	x.take(9, connect("~5", true), "5:drop 9:connack-0-false")
}

func TestRoomForSessions(t *testing.T) {
	x := &tester{t: t}
	for k := range api.MaxSessions {
		x.come(k+1, fmt.Sprint("c", k), false)
	}
	x.lost(3, "")
	x.open(20)
	x.take(20, connect("new", true), "20:connack-3-false 20:drop")
	x.open(21)
	x.take(21, connect("c2", true), "21:connack-0-false")
	x.lost(21, "")
	x.open(22)
	x.take(22, connect("new", false), "22:connack-0-false")
	if len(x.b.Sessions) != api.MaxSessions {
		t.Error(len(x.b.Sessions))
	}
	// The old link of the name is dropped before the room is counted.
	x.lost(1, "")
	x.open(23)
	x.take(23, willing("c1", true, api.Will{Topic: "w"}), "2:drop 23:connack-0-false")
	x.lost(4, "")
	x.open(24)
	x.take(24, connect("c1", false), "23:drop 24:connack-0-false")
}

func TestResume(t *testing.T) {
	x := &tester{t: t}
	x.come(1, "s", false)
	x.take(1, subscribe(1, wish("#", 2)), "1:suback-1[2]")
	x.lost(1, "")
	x.come(2, "p", false)
	for k := range 14 {
		x.take(2, publish("t", fmt.Sprint(k), 1+k%2, 100+k), fmt.Sprintf("2:%d-%d", []int{api.MqPuback, api.MqPubrec}[k%2], 100+k))
	}
	if s := x.session("s"); len(s.Out.Queue) != api.MaxQueue || len(s.Out.Flight) != 0 {
		t.Error(show(x.b))
	}
	x.take(2, publish("t", "lost", 0, 0), "")
	x.open(3)
	x.take(3, connect("s", false), "3:connack-0-true 3:publish-t-0-1-1 3:publish-t-1-2-2 3:publish-t-2-1-3 3:publish-t-3-2-4")
	x.take(3, only(api.MqPubrec, 2), "3:6-2")
	x.take(3, only(api.MqPuback, 1), "3:publish-t-4-1-5")
	x.lost(3, "")
	x.open(4)
	x.take(4, connect("s", false), "4:connack-0-true 4:6-2 4:publish-t-2-1-3-again 4:publish-t-3-2-4-again 4:publish-t-4-1-5-again")
}

func TestPublish(t *testing.T) {
	x := &tester{t: t}
	x.come(1, "p", false)
	x.come(2, "q0", false)
	x.come(3, "q1", true)
	x.come(4, "q2", false)
	x.take(2, subscribe(1, wish("a/+", 0)), "2:suback-1[0]")
	x.take(3, subscribe(1, wish("a/#", 1), wish("a/b", 0)), "3:suback-1[1 0]")
	x.take(4, subscribe(1, wish("#", 2)), "4:suback-1[2]")
	x.take(1, publish("a/b", "x", 0, 0), "2:publish-a/b-x-0 3:publish-a/b-x-0 4:publish-a/b-x-0")
	x.take(1, publish("a/b", "y", 1, 7), "2:publish-a/b-y-0 3:publish-a/b-y-1-1 4:publish-a/b-y-1-1 1:4-7")
	x.take(1, publish("a/b", "z", 2, 7), "2:publish-a/b-z-0 3:publish-a/b-z-1-2 4:publish-a/b-z-2-2 1:5-7")
	x.take(1, publish("a/b", "z", 2, 7), "1:5-7") // once more: it is not distributed again
	again := publish("other", "z", 2, 7)
	again.Dup = true
	x.take(1, again, "1:5-7")
	x.take(1, only(api.MqPubrel, 7), "1:7-7")
	x.take(1, only(api.MqPubrel, 7), "1:7-7")
	x.take(1, publish("a", "z", 2, 7), "3:publish-a-z-1-3 4:publish-a-z-2-3 1:5-7")
	// One's own subscription counts too, before the reply.
	x.take(1, subscribe(2, wish("own", 1)), "1:suback-2[1]")
	x.take(1, publish("own", "m", 1, 9), "1:publish-own-m-1-1 4:publish-own-m-1-4 1:4-9")
	// Four are on their way to 4: the next ones wait, and of too many the last are lost.
	for k := range api.MaxQueue + 2 {
		x.take(1, publish("b", fmt.Sprint(k), 1, 10), "1:4-10")
	}
	if s := x.session("q2"); len(s.Out.Queue) != api.MaxQueue || s.Out.Queue[7].Payload != "7" {
		t.Error(show(x.b))
	}
	x.take(4, only(api.MqPuback, 4), "4:publish-b-0-1-5")
	x.take(4, only(api.MqPuback, 2), "") // it has QoS 2
	x.take(4, only(api.MqPubrec, 2), "4:6-2")
	x.take(4, only(api.MqPubrec, 99), "4:6-99")
	x.take(4, only(api.MqPubcomp, 3), "")
	x.take(4, only(api.MqPubcomp, 2), "4:publish-b-1-1-6")
	x.take(4, only(api.MqPubcomp, 2), "")
	// A session without a link is offered only what has a quality.
	x.lost(2, "")
	x.take(1, publish("a/c", "x", 0, 0), "3:publish-a/c-x-0 4:publish-a/c-x-0")
	x.take(1, publish("a/c", "x", 1, 5), "3:publish-a/c-x-1-4 1:4-5")
	if s := x.session("q0"); len(s.Out.Queue) != 0 {
		t.Error(show(x.b))
	}
}

func TestTooManyIn(t *testing.T) {
	x := &tester{t: t}
	x.come(1, "p", false)
	for k := range api.MaxIn {
		x.take(1, publish("a", "x", 2, 1000-k), fmt.Sprint("1:5-", 1000-k))
	}
	x.take(1, publish("a", "x", 2, 1000), "1:5-1000")
	x.take(1, publish("a", "x", 2, 1), "1:drop")
	if s := x.session("p"); s.Link != 0 || len(s.In) != api.MaxIn || s.In[0] != 985 {
		t.Error(show(x.b))
	}
	// It stays so when the client comes again.
	x.open(2)
	x.take(2, connect("p", false), "2:connack-0-true")
	x.take(2, publish("a", "x", 2, 1000), "2:5-1000")
	x.take(2, only(api.MqPubrel, 985), "2:7-985")
	x.take(2, publish("a", "x", 2, 1), "2:5-1")
}

func TestRetain(t *testing.T) {
	x := &tester{t: t}
	x.come(1, "p", false)
	x.come(2, "s", false)
	x.take(2, subscribe(1, wish("k/#", 2)), "2:suback-1[2]")
	x.take(1, keep("k/b", "1", 1, 5), "2:publish-k/b-1-1-1 1:4-5")
	x.take(1, keep("k/a", "2", 0, 0), "2:publish-k/a-2-0")
	x.take(1, keep("k/c", "3", 2, 5), "2:publish-k/c-3-2-2 1:5-5")
	x.take(1, publish("k/d", "4", 1, 5), "2:publish-k/d-4-1-3 1:4-5")
	x.take(2, subscribe(2, wish("k/+", 1), wish("k/c", 2), wish("a#", 1), wish("none", 2)), "2:suback-2[1 2 128 2] 2:publish-k/a-2-0-kept 2:publish-k/b-1-1-4-kept")
	if s := x.session("s"); len(s.Out.Queue) != 2 || s.Out.Queue[0] != (api.Message{Topic: "k/c", Payload: "3", QoS: 1, Retain: true}) || s.Out.Queue[1].QoS != 2 || len(s.Subs) != 4 {
		t.Error(show(x.b))
	}
	x.take(1, keep("k/b", "", 0, 0), "2:publish-k/b--0")
	if len(x.b.Kept) != 2 || x.b.Kept[0] != (api.Message{Topic: "k/a", Payload: "2", Retain: true}) || x.b.Kept[1].QoS != 2 {
		t.Error(x.b.Kept)
	}
	for k := range api.MaxKept {
		x.take(1, keep(fmt.Sprintf("m%02d", k), "x", 0, 0), "")
	}
	if len(x.b.Kept) != api.MaxKept || x.b.Kept[15].Topic != "m13" {
		t.Error(x.b.Kept)
	}
	x.take(2, subscribe(3, wish("m13", 0)), "2:suback-3[0] 2:publish-m13-x-0-kept")
	// What isn't stored is distributed all the same.
	x.take(2, subscribe(4, wish("m99", 0)), "2:suback-4[0]")
	x.take(1, keep("m99", "x", 0, 0), "2:publish-m99-x-0")
	x.take(2, subscribe(5, wish("m99", 0)), "2:suback-5[0]")
}

func TestSubscribe(t *testing.T) {
	x := &tester{t: t}
	x.come(1, "s", false)
	var l []api.Wish
	for k := range api.MaxSubs {
		l = append(l, wish(fmt.Sprintf("f%02d", k), k%3))
	}
	x.take(1, subscribe(1, l[:8]...), "1:suback-1[0 1 2 0 1 2 0 1]")
	x.take(1, subscribe(2, l[8:]...), "1:suback-2[2 0 1 2 0 1 2 0]")
	x.take(1, subscribe(3, wish("more", 1), wish("f00", 2), wish("a/#/b", 0)), "1:suback-3[128 2 128]")
	if s := x.session("s"); len(s.Subs) != api.MaxSubs || s.Subs[0].QoS != 2 {
		t.Error(s.Subs)
	}
	x.take(1, api.Mq{Kind: api.MqUnsubscribe, ID: 4, Filters: []string{"f00", "none", "f15", "a/#/b"}}, "1:11-4")
	if s := x.session("s"); !slices.Equal(s.Subs, l[1:15]) {
		t.Error(s.Subs)
	}
	x.take(1, publish("f00", "x", 1, 1), "1:4-1")
	x.take(1, publish("f02", "x", 2, 1), "1:publish-f02-x-2-1 1:5-1")
}

func TestEnds(t *testing.T) {
	x := &tester{t: t}
	x.open(1, 2, 3, 4)
	x.take(1, willing("a", false, api.Will{Topic: "w", Payload: "a", QoS: 1}), "1:connack-0-false")
	x.take(2, willing("b", true, api.Will{Topic: "w", Payload: "b", QoS: 2, Retain: true}), "2:connack-0-false")
	x.take(3, connect("s", false), "3:connack-0-false")
	x.take(3, subscribe(1, wish("w", 2)), "3:suback-1[2]")
	x.take(4, willing("c", false, api.Will{Topic: "w", Payload: "c"}), "4:connack-0-false")
	x.take(1, only(api.MqPingreq, 0), "1:13-0")
	x.take(4, only(api.MqDisconnect, 0), "4:drop")
	if s := x.session("c"); s.Client != "c" || s.Will.Is || s.Link != 0 {
		t.Error(show(x.b))
	}
	x.take(1, only(api.MqPingresp, 0), "1:drop 3:publish-w-a-1-1")
	x.take(2, only(api.MqConnack, 0), "2:drop 3:publish-w-b-2-2")
	if len(x.b.Sessions) != 3 || len(x.b.Kept) != 1 || x.b.Kept[0].Payload != "b" {
		t.Error(show(x.b))
	}
	for k, p := range []api.Mq{connect("s", false), only(api.MqConnack, 0), {Kind: api.MqSuback, ID: 1, Codes: []int{1}}, only(api.MqUnsuback, 1), only(api.MqPingresp, 0)} {
		x.open(10 + k)
		x.take(10+k, connect("s", false), fmt.Sprint(map[bool]string{true: "3:drop "}[k == 0], 10+k, ":connack-0-true ", 10+k, ":publish-w-a-1-1-again ", 10+k, ":publish-w-b-2-2-again"))
		x.take(10+k, p, fmt.Sprint(10+k, ":drop"))
	}
	// A clean client's own will doesn't come to itself, another one's does.
	y := &tester{t: t}
	y.open(1, 2)
	y.take(1, willing("a", true, api.Will{Topic: "w", Payload: "a", QoS: 1}), "1:connack-0-false")
	y.take(2, willing("b", false, api.Will{Topic: "w", Payload: "b", QoS: 1}), "2:connack-0-false")
	y.take(1, subscribe(1, wish("#", 1)), "1:suback-1[1]")
	y.take(2, subscribe(1, wish("#", 1)), "2:suback-1[1]")
	y.lost(1, "2:publish-w-a-1-1")
	y.lost(2, "")
	if s := y.session("b"); len(y.b.Sessions) != 1 || len(s.Out.Flight) != 1 || len(s.Out.Queue) != 1 || s.Out.Queue[0].Payload != "b" {
		t.Error(show(y.b))
	}
}

func TestTick(t *testing.T) {
	x := &tester{t: t}
	x.open(1, 2, 3, 4, 5)
	for k, c := range []struct {
		keep  int
		clean bool
	}{{1, true}, {0, false}, {2, false}} {
		p := willing(fmt.Sprint("c", k), c.clean, api.Will{Topic: "w", Payload: fmt.Sprint(k)})
		p.KeepAlive = c.keep
		x.take(k+1, p, fmt.Sprint(k+1, ":connack-0-false"))
	}
	x.take(4, connect("s", false), "4:connack-0-false")
	x.take(4, subscribe(1, wish("w", 0)), "4:suback-1[0]")
	for range 6 { // 2 * 6 is not above 3 * 1 * 4
		x.tick("")
	}
	x.tick("1:drop 4:publish-w-0-0")
	if len(x.b.Sessions) != 3 || x.session("c1").Idle != 7 || x.session("s").Idle != 7 || !slices.Equal(x.b.Links, []int{5}) {
		t.Error(show(x.b))
	}
	for range 4 {
		x.tick("")
	}
	x.take(3, only(api.MqPingreq, 0), "3:13-0")
	if x.session("c2").Idle != 0 {
		t.Error(show(x.b))
	}
	for range 12 {
		x.tick("")
	}
	x.tick("3:drop 4:publish-w-2-0")
	if s := x.session("c2"); s.Link != 0 || s.Keep != 0 || s.Idle != 0 || s.Will.Is {
		t.Error(show(x.b))
	}
	x.b.Sessions[0].Idle = 1 << 20
	x.tick("")
	if x.b.Sessions[0].Idle != 1<<20 {
		t.Error(show(x.b))
	}
	// All at once, in order.
	y := &tester{t: t}
	for k := range 4 {
		p := connect(fmt.Sprint("c", 9-k), k%2 == 0)
		p.KeepAlive = 65535
		y.open(k + 1)
		y.take(k+1, p, fmt.Sprint(k+1, ":connack-0-false"))
		y.b.Sessions[0].Idle = 3*65535*api.Ticks/2 - 1
	}
	y.tick("")
	y.tick("4:drop 3:drop 2:drop 1:drop")
	if len(y.b.Sessions) != 2 {
		t.Error(show(y.b))
	}
}

func TestDurable(t *testing.T) {
	b := some()
	b.Sessions[2].Keep, b.Sessions[2].Idle, b.Sessions[2].Will, b.Sessions[2].In = 5, 6, api.Will{Is: true, Topic: "w"}, []int{7}
	was := show(b)
	d, e := broker.Durable(b)
	want := api.Broker{Sessions: []api.Session{b.Sessions[1], {Client: b.Sessions[2].Client, In: []int{7}}}, Kept: b.Kept}
	if show(d) != show(want) || e != api.OK || broker.Check(d) != api.OK {
		t.Error(show(d), e)
	}
	d.Sessions[0].Subs[0].QoS = 0
	d.Sessions[0].Out.Flight[0].Rec = false
	d.Sessions[0].Out.Queue[0].QoS = 2
	d.Sessions[1].In[0] = 99
	d.Kept[0].Payload = "other"
	if show(b) != was {
		t.Error("something is shared")
	}
}

// TestAnything: whatever is done, the broker stays valid, says packets only to links that it knows, and drops none twice.
func TestAnything(t *testing.T) {
	r := rand.New(rand.NewSource(1))
	name := func() string { return string(rune('a' + r.Intn(10))) }
	topic := func() string { return []string{"x", "x/y", "z"}[r.Intn(3)] }
	for range 60 {
		x := &tester{t: t}
		for n := range 400 {
			var l []api.Say
			var e api.Errno
			c := x.b
			link := 1 + r.Intn(n/20+3)
			was := show(x.b)
			switch r.Intn(12) {
			case 0, 1:
				c, e = broker.Open(x.b, link)
			case 2:
				c, l, e = broker.Lost(x.b, link)
			case 3:
				c, l, e = broker.Tick(x.b)
			case 4, 5:
				p := connect(name(), r.Intn(2) > 0)
				if r.Intn(2) > 0 {
					p = willing(p.Client, p.Clean, api.Will{Topic: topic(), QoS: r.Intn(3), Retain: r.Intn(2) > 0, Payload: "w"})
				}
				p.KeepAlive = r.Intn(3)
				c, l, e = broker.Take(x.b, link, p)
			case 6:
				c, l, e = broker.Take(x.b, link, subscribe(1, wish([]string{"#", "x/+", "x/#", "z"}[r.Intn(4)], r.Intn(3))))
			case 7:
				c, l, e = broker.Take(x.b, link, only(api.MqPuback+r.Intn(4), 1+r.Intn(8)))
			default:
				q := r.Intn(3)
				p := publish(topic(), fmt.Sprint(n), q, min(q, 1)*(1+r.Intn(20)))
				p.Retain = r.Intn(4) == 0
				c, l, e = broker.Take(x.b, link, p)
			}
			if e != api.OK {
				if e == api.ErrForm {
					t.Fatal(e)
				}
				continue
			}
			known := map[int]int{}
			for _, s := range x.b.Sessions {
				known[s.Link]++
			}
			for _, k := range x.b.Links {
				known[k]++
			}
			for _, s := range l {
				if known[s.Link] == 0 || s.Drop && fmt.Sprint(s.Packet) != fmt.Sprint(api.Mq{}) {
					t.Fatal(tell(l))
				}
				if s.Drop {
					delete(known, s.Link)
				}
			}
			x.done(was, c, e)
		}
	}
}
