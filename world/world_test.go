package world_test

import (
	"bytes"
	"fmt"
	"math/rand"
	"slices"
	"strings"
	"testing"

	"kiosk/api"
	"kiosk/broker"
	"kiosk/client"
	"kiosk/disk"
	"kiosk/kernel"
	"kiosk/peel"
	"kiosk/same"
	"kiosk/trace"
	"kiosk/world"
)

// script grows act by act; after each it is run anew from its beginning.
type script struct {
	t    *testing.T
	acts []api.Act
	r    api.Report
}

// do adds acts and returns the frames that came of them.
func (s *script) do(l ...api.Act) [][]byte {
	s.t.Helper()
	was := len(s.r.Frames)
	s.acts = append(s.acts, l...)
	r, e := world.Run(s.acts)
	if e != api.OK || len(r.Marks) != len(s.acts) || len(r.Marks) > 0 && r.Marks[len(r.Marks)-1] != len(r.Frames) || broker.Check(r.Broker) != api.OK {
		s.t.Fatal(e, r.Marks)
	}
	for k := range s.r.Frames {
		if !bytes.Equal(s.r.Frames[k], r.Frames[k]) {
			s.t.Fatal("equal scripts give different frames")
		}
	}
	s.r = r
	return r.Frames[was:]
}

// talk hands frames to the kernel, and what it answers to the clients, until all are quiet.
func (s *script) talk(clients []*client.Client, l ...[]byte) {
	s.t.Helper()
	for len(l) > 0 {
		out := s.do(frame(l[0]))
		l = l[1:]
		for _, c := range clients {
			l = append(l, c.Hear(out)...)
		}
	}
}

func frame(b []byte) api.Act          { return api.Act{Kind: api.ActFrame, Frame: b} }
func ticks(n int) api.Act             { return api.Act{Kind: api.ActTick, N: n} }
func crash(picks ...int) api.Act      { return api.Act{Kind: api.ActCrash, Picks: picks} }
func arm(n int, picks ...int) api.Act { return api.Act{Kind: api.ActArm, N: n, Picks: picks} }

var start = api.Act{Kind: api.ActStart}

func made(k int) *client.Client {
	c, _ := client.New(0x0a000010+k, 0x020000000010+k, 5000+k, 100000*k)
	return c
}

func must(t *testing.T, c *client.Client, p api.Mq) []byte {
	t.Helper()
	b, e := c.Say(p)
	if e != api.OK {
		t.Fatal(p, e)
	}
	return b
}

func connect(name string) api.Mq { return api.Mq{Kind: api.MqConnect, Client: name} }

func publish(payload string, qos, id int) api.Mq {
	return api.Mq{Kind: api.MqPublish, Topic: "t", Payload: payload, QoS: qos, ID: id}
}

var subscribe = api.Mq{Kind: api.MqSubscribe, ID: 9, Wishes: []api.Wish{{Filter: "#", QoS: 2}}}

func TestEmpty(t *testing.T) {
	r, e := world.Run(nil)
	if len(r.Frames) != 0 || len(r.Marks) != 0 || !same.Broker(r.Broker, api.Broker{}) || r.Drops != 0 || !r.Up || e != api.OK {
		t.Error(r, e)
	}
	r, e = world.Run(make([]api.Act, 400))
	if len(r.Frames) != 0 || len(r.Marks) != 400 || !r.Up || e != api.OK {
		t.Error(r, e)
	}
	r, e = world.Run(make([]api.Act, 401))
	if r.Frames != nil || r.Marks != nil || r.Up || !same.Broker(r.Broker, api.Broker{}) || e != api.ErrLimit {
		t.Error(r, e)
	}
}

// TestImpossible: what can't be done is ignored.
func TestImpossible(t *testing.T) {
	hello := made(1).Hello()
	zeros := frame(make([]byte, 99))
	for i, c := range []struct {
		l      []api.Act
		marks  []int
		drops  int
		stands bool // it runs at the end
	}{
		{[]api.Act{frame(hello)}, []int{1}, 0, true},
		{[]api.Act{frame(hello), start, frame(hello)}, []int{1, 1, 2}, 0, true},
		{[]api.Act{crash(), frame(hello), zeros, ticks(3), arm(0), crash(1), {Kind: 99}, {}}, []int{0, 0, 0, 0, 0, 0, 0, 0}, 0, false},
		{[]api.Act{crash(), zeros, start, zeros}, []int{0, 0, 0, 0}, 1, true},
		{[]api.Act{zeros, crash(), zeros, start, zeros, zeros, crash(), start, frame(hello)}, []int{0, 0, 0, 0, 0, 0, 0, 0, 1}, 3, true},
		{[]api.Act{zeros, crash(), start, crash()}, []int{0, 0, 0, 0}, 1, false},
		{[]api.Act{{Kind: 99, Frame: hello, N: 1}, {Kind: -1}, {Kind: api.ActNone, Frame: hello}}, []int{0, 0, 0}, 0, true},
		{[]api.Act{frame(nil), frame(make([]byte, 13)), frame(make([]byte, api.MaxFrame+1)), frame(make([]byte, 14)), frame(make([]byte, api.MaxFrame))}, []int{0, 0, 0, 0, 0}, 2, true},
		{[]api.Act{arm(0), frame(hello), ticks(9), zeros}, []int{0, 1, 1, 1}, 1, true}, // nothing is to be stored
		{[]api.Act{crash(), start, crash(), start, crash(), start}, []int{0, 0, 0, 0, 0, 0}, 0, true},
	} {
		r, e := world.Run(c.l)
		if !slices.Equal(r.Marks, c.marks) || len(r.Frames) != r.Marks[len(r.Marks)-1] || r.Drops != c.drops || r.Up != c.stands || e != api.OK {
			t.Errorf("%d: %v, %d, %v, %v", i, r.Marks, r.Drops, r.Up, e)
		}
	}
}

// TestTicks: as many as are asked for, if that's allowed.
func TestTicks(t *testing.T) {
	for _, c := range []struct{ n, idle int }{{1, 1}, {200, 200}, {0, 0}, {-1, 0}, {201, 0}, {1 << 62, 0}} {
		s := &script{t: t}
		x := made(1)
		s.talk([]*client.Client{x}, x.Dial())
		s.talk([]*client.Client{x}, must(t, x, connect("a")))
		s.do(ticks(c.n))
		if s.r.Broker.Sessions[0].Idle != c.idle {
			t.Errorf("%d: %d", c.n, s.r.Broker.Sessions[0].Idle)
		}
	}
	// One who doesn't answer is sent the same again and again.
	s := &script{t: t}
	if l := s.do(frame(made(1).Dial()), ticks(200), ticks(100)); len(l) != 1+8+1 || !slices.Equal(s.r.Marks, []int{1, 8, 10}) {
		t.Error(len(l), s.r.Marks)
	}
}

// TestAsKernel: the frames are just those of a kernel, in order and unchanged.
func TestAsKernel(t *testing.T) {
	d, _ := disk.New(make([]byte, api.MaxSectors*api.Sector))
	k, _ := kernel.Open(d)
	var acts []api.Act
	var want [][]byte
	var marks []int
	x, y := made(1), made(2)
	give := func(l ...[]byte) {
		for len(l) > 0 {
			out, _ := k.Frame(l[0])
			acts, want = append(acts, frame(l[0])), append(want, out...)
			marks = append(marks, len(want))
			l = append(l[1:], append(x.Hear(out), y.Hear(out)...)...)
		}
	}
	give(x.Hello(), x.Dial(), y.Dial())
	give(must(t, x, connect("x")), must(t, y, connect("y")))
	give(must(t, x, subscribe))
	for n := range 12 { // one segment is answered by many frames
		give(must(t, y, publish(strings.Repeat("x", 100), 1, n+1)))
	}
	out, _ := k.Tick()
	acts, want = append(acts, ticks(1)), append(want, out...)
	marks = append(marks, len(want))
	give(make([]byte, 60))
	r, e := world.Run(acts)
	if e != api.OK || !slices.EqualFunc(r.Frames, want, bytes.Equal) || !slices.Equal(r.Marks, marks) || !same.Broker(r.Broker, k.Broker()) || r.Drops != 1 || !r.Up {
		t.Error(e, len(r.Frames), len(want), r.Drops)
	}
	for _, f := range r.Frames {
		clear(f)
	}
	clear(r.Broker.Sessions)
	again, _ := world.Run(acts)
	if !slices.EqualFunc(again.Frames, want, bytes.Equal) || !same.Broker(again.Broker, k.Broker()) {
		t.Error("a run changes another one")
	}
}

// TestCrashAndStart: what lasts is there again, what doesn't is not.
func TestCrashAndStart(t *testing.T) {
	s := &script{t: t}
	x := made(1)
	all := []*client.Client{x}
	s.talk(all, x.Dial())
	s.talk(all, must(t, x, connect("a")))
	s.talk(all, must(t, x, subscribe))
	s.talk(all, must(t, x, publish("1", 1, 5)))
	running := s.r.Broker
	s.do(crash())
	if s.r.Up || !same.Broker(s.r.Broker, running) || running.Sessions[0].Link != 1 {
		t.Error(s.r.Up, s.r.Broker)
	}
	if out := s.do(frame(x.Hello()), ticks(5)); len(out) != 0 {
		t.Error("it still runs")
	}
	s.do(start)
	want, _ := broker.Durable(running)
	if !s.r.Up || !same.Broker(s.r.Broker, want) {
		t.Error(s.r.Up, s.r.Broker)
	}
	// The old connection is unknown, and is refused.
	out := s.do(frame(must(t, x, publish("2", 0, 0))))
	if _, _, g, ok := peel.Segment(out[0]); len(out) != 1 || !ok || g.Flags&api.Rst == 0 {
		t.Error(g, ok)
	}
	x.Hear(out)
	if x.Up() {
		t.Error("the client is still up")
	}
	s.talk(all, x.Dial())
	s.talk(all, must(t, x, connect("a")))
	l, e := x.Got()
	if len(l) != 2 || !l[0].Present || l[1].Payload != "1" || !l[1].Dup || e != api.OK {
		t.Error(l, e)
	}
}

// TestArm: the power fails at a request of the disk; the picks are those of the last ActArm.
func TestArm(t *testing.T) {
	begin := func() (*script, *client.Client) {
		s := &script{t: t}
		x := made(1)
		s.talk([]*client.Client{x}, x.Dial())
		return s, x
	}
	lost, kept := 0, 0
	for n := 1; n < 12; n++ {
		for _, picks := range [][]int{nil, {1, 1, 1, 1}, {30, 0, 1}} {
			s, x := begin()
			was := s.r.Broker
			s.do(arm(99, 7), arm(n, picks...))
			s.talk([]*client.Client{x}, must(t, x, connect("a")))
			if s.r.Up {
				if n < 5 {
					t.Error(n, "it runs on without power")
				}
				continue
			}
			lost++
			if l, _ := x.Got(); len(l) != 0 || !same.Broker(s.r.Broker, was) {
				t.Error(n, "something was told:", l, s.r.Broker)
			}
			s.do(ticks(3), start)
			if !s.r.Up || len(s.r.Broker.Sessions) > 1 {
				t.Error(n, s.r.Up, s.r.Broker)
			}
			kept += len(s.r.Broker.Sessions)
			if len(picks) == 0 && len(s.r.Broker.Sessions) > 0 && n < 5 {
				t.Error(n, "what was not flushed has survived without picks")
			}
		}
	}
	if lost < 9 || kept < 1 || kept == lost {
		t.Error(lost, kept)
	}
	// In a tick that stores nothing the power may be off; the next that stores something ends it, and the ticks after it.
	s, x := begin()
	p := connect("a")
	p.KeepAlive, p.Will = 1, api.Will{Is: true, Topic: "w", QoS: 1, Payload: "x", Retain: true}
	s.talk([]*client.Client{x}, must(t, x, p))
	s.do(ticks(3))
	s.do(arm(0), ticks(3))
	if !s.r.Up {
		t.Error("it ends early")
	}
	s.do(ticks(200), zeros())
	if s.r.Up || s.r.Broker.Sessions[0].Idle != 6 || s.r.Drops != 0 {
		t.Error(s.r.Up, s.r.Broker, s.r.Drops)
	}
	// The arm is gone with its disk.
	s.do(start, arm(9), crash(), start)
	for k := range 5 {
		x = made(2 + k)
		s.talk([]*client.Client{x}, x.Dial())
		s.talk([]*client.Client{x}, must(t, x, connect(fmt.Sprint("b", k))))
	}
	if !s.r.Up || len(s.r.Broker.Sessions) != 6 {
		t.Error(s.r.Up, s.r.Broker)
	}
}

func zeros() api.Act { return frame(make([]byte, 99)) }

// TestTheorems: over scripts with crashes anywhere, a message of QoS 2 comes once, none that was acknowledged is lost, and the wire tells what the clients got.
func TestTheorems(t *testing.T) {
	r := rand.New(rand.NewSource(1))
	for range 6 {
		s := &script{t: t}
		sent, told, released := 0, 0, true // of messages of QoS 2: sent, acknowledged by PUBREC, and by PUBCOMP
		var came []string
		for life := range 4 {
			pub, sub := made(2*life), made(2*life+1)
			all := []*client.Client{pub, sub}
			s.do(arm(1+r.Intn(40), r.Intn(66), 1, r.Intn(66), 1, 1))
			if life == 3 {
				s.do(arm(1 << 40)) // nothing fails any more
			}
			s.talk(all, pub.Dial(), sub.Dial())
			recd, seen := 0, 0
			say := func(c *client.Client, p api.Mq) {
				if b, e := c.Say(p); e == api.OK && s.r.Up {
					s.talk(all, b)
				}
			}
			read := func() {
				l, _ := pub.Got()
				for ; recd < len(l); recd++ {
					if x := l[recd]; x.ID == 1+sent%9 {
						if x.Kind == api.MqPubrec {
							told = sent
						}
						released = released || x.Kind == api.MqPubcomp
					}
				}
				l, _ = sub.Got()
				for ; seen < len(l); seen++ {
					x := l[seen]
					if x.Kind == api.MqPublish {
						if !x.Dup || !slices.Contains(came, x.Payload) {
							came = append(came, x.Payload)
						}
						say(sub, api.Mq{Kind: api.MqPubrec, ID: x.ID})
					}
					if x.Kind == api.MqPubrel {
						say(sub, api.Mq{Kind: api.MqPubcomp, ID: x.ID})
					}
					l, _ = sub.Got()
				}
			}
			say(sub, connect("sub"))
			say(pub, connect("pub"))
			say(sub, subscribe)
			for step := 0; step < 5 && s.r.Up; step++ {
				read()
				if released {
					sent++
					released = false
				}
				if told != sent {
					say(pub, publish(fmt.Sprint(sent), 2, 1+sent%9))
				}
				read()
				if told == sent {
					say(pub, api.Mq{Kind: api.MqPubrel, ID: 1 + sent%9})
				}
				read()
			}
			for _, c := range []struct {
				x *client.Client
				k int
			}{{pub, 2 * life}, {sub, 2*life + 1}} {
				got, _ := c.x.Got()
				if wire, e := trace.Packets(s.r.Frames, 0x0a000010+c.k, 5000+c.k); fmt.Sprint(wire) != fmt.Sprint(got) || e != api.OK {
					t.Fatal("the wire tells something else:", wire, got)
				}
			}
			if life < 3 {
				s.do(crash(r.Intn(66), 1), start)
			}
		}
		var want []string
		for k := range told {
			want = append(want, fmt.Sprint(k+1))
		}
		if !slices.Equal(came, want) {
			t.Fatalf("%v came, not %v", came, want)
		}
	}
}
