package kernel_test

import (
	"bytes"
	"fmt"
	"math/rand"
	"slices"
	"strings"
	"testing"

	"kiosk/api"
	"kiosk/arp"
	"kiosk/broker"
	"kiosk/client"
	"kiosk/disk"
	"kiosk/ether"
	"kiosk/host"
	"kiosk/icmp"
	"kiosk/ip"
	"kiosk/kernel"
	"kiosk/log"
	"kiosk/pack"
	"kiosk/peel"
	"kiosk/same"
	"kiosk/seg"
	"kiosk/store"
	"kiosk/sum"
	"kiosk/trace"
)

const everybody = 1<<48 - 1

func blank() *disk.Disk {
	d, _ := disk.New(make([]byte, api.MaxSectors*api.Sector))
	return d
}

// net is a kernel and its clients, on one wire.
type net struct {
	t       *testing.T
	d       *disk.Disk
	k       *kernel.Kernel
	clients map[string]*client.Client
	frames  [][]byte // of the kernel
	deaf    map[string]int
}

func begin(t *testing.T) *net {
	t.Helper()
	n := &net{t: t, d: blank(), clients: map[string]*client.Client{}, deaf: map[string]int{}}
	n.start()
	return n
}

func (n *net) start() {
	n.t.Helper()
	k, e := kernel.Open(n.d)
	if e != api.OK {
		n.t.Fatal(e)
	}
	n.k = k
}

// names are those of the clients, in order.
func (n *net) names() []string {
	var l []string
	for name := range n.clients {
		l = append(l, name)
	}
	slices.Sort(l)
	return l
}

// put hands frames to the kernel, and what it answers to the clients, until all are quiet.
func (n *net) put(l ...[]byte) {
	n.t.Helper()
	for len(l) > 0 {
		out, e := n.k.Frame(l[0])
		if e != api.OK {
			n.t.Fatal(e)
		}
		l = append(l[1:], n.hear(out)...)
		n.valid()
	}
}

func (n *net) hear(out [][]byte) [][]byte {
	n.frames = append(n.frames, out...)
	var l [][]byte
	for _, name := range n.names() {
		if n.deaf[name] == 0 {
			l = append(l, n.clients[name].Hear(out)...)
		}
	}
	return l
}

func (n *net) valid() {
	n.t.Helper()
	if host.Check(n.k.Host()) != api.OK || broker.Check(n.k.Broker()) != api.OK || n.k.Lost() {
		n.t.Fatal("not valid:", n.k.Host(), n.k.Broker())
	}
}

func (n *net) tick(times int) {
	n.t.Helper()
	for range times {
		out, e := n.k.Tick()
		if e != api.OK {
			n.t.Fatal(e)
		}
		n.put(n.hear(out)...)
		n.valid()
	}
}

// lasts ends all by a crash, and sees whether all that should last was stored.
func (n *net) lasts() {
	n.t.Helper()
	want, _ := broker.Durable(n.k.Broker())
	n.d, _ = disk.New(n.d.Crash(nil))
	n.start()
	if !same.Broker(n.k.Broker(), want) {
		n.t.Errorf("after a crash: %v, not %v", n.k.Broker(), want)
	}
}

func addr(k int) (ip, mac, port int) { return 0x0a000010 + k, 0x020000000010 + k, 5000 + k }

// come makes the k-th client, and lets it connect.
func (n *net) come(name string, k int, p api.Mq) *client.Client {
	n.t.Helper()
	ip, mac, port := addr(k)
	c, _ := client.New(ip, mac, port, 1000*k)
	n.clients[name] = c
	n.put(c.Dial())
	if !c.Up() {
		n.t.Fatal("not up:", name)
	}
	n.say(name, p)
	return c
}

func (n *net) say(name string, l ...api.Mq) {
	n.t.Helper()
	for _, p := range l {
		b, e := n.clients[name].Say(p)
		if e != api.OK {
			n.t.Fatal(name, p, e)
		}
		n.put(b)
	}
}

// got tells what a client got, a word a packet.
func (n *net) got(name string) string {
	n.t.Helper()
	l, e := n.clients[name].Got()
	if e != api.OK {
		n.t.Fatal(name, e)
	}
	return tell(l)
}

func tell(l []api.Mq) string {
	var out []string
	for _, p := range l {
		switch p.Kind {
		case api.MqConnack:
			out = append(out, fmt.Sprintf("connack-%d-%v", p.Code, p.Present))
		case api.MqPublish:
			x := fmt.Sprintf("%s=%s/%d", p.Topic, p.Payload, p.QoS)
			if p.ID > 0 {
				x += fmt.Sprint("-", p.ID)
			}
			if p.Dup {
				x += "-again"
			}
			out = append(out, x)
		default:
			out = append(out, fmt.Sprintf("%d-%d", p.Kind, p.ID))
		}
	}
	return strings.Join(out, " ")
}

func (n *net) is(name, want string) {
	n.t.Helper()
	if got := n.got(name); got != want {
		n.t.Errorf("%s got %q, not %q", name, got, want)
	}
}

func connect(name string, clean bool) api.Mq {
	return api.Mq{Kind: api.MqConnect, Client: name, Clean: clean}
}

func publish(topic, payload string, qos, id int) api.Mq {
	return api.Mq{Kind: api.MqPublish, Topic: topic, Payload: payload, QoS: qos, ID: id}
}

func subscribe(f string, qos int) api.Mq {
	return api.Mq{Kind: api.MqSubscribe, ID: 9, Wishes: []api.Wish{{Filter: f, QoS: qos}}}
}

func only(kind, id int) api.Mq { return api.Mq{Kind: kind, ID: id} }

// wrap makes a frame of a packet.
func wrap(dst, src, kind int, data []byte) []byte {
	b, _ := ether.Bytes(api.Frame{Dst: dst, Src: src, Type: kind, Data: data})
	return b
}

func packet(p api.Packet) []byte {
	b, _ := ip.Bytes(p)
	return b
}

func segment(src, dst int, s api.Seg) []byte {
	b, _ := seg.Bytes(src, dst, s)
	return b
}

func question(mac, from, to int) []byte {
	b, _ := arp.Bytes(api.Arp{SrcMac: mac, SrcIP: from, DstIP: to})
	return b
}

func echo(kind byte, more string) []byte {
	b := append([]byte{kind, 0, 0, 0}, more...)
	c := sum.Check(b)
	b[2], b[3] = byte(c>>8), byte(c)
	return b
}

func TestOpen(t *testing.T) {
	small, _ := disk.New(make([]byte, api.Sector))
	off := blank()
	off.Off(0)
	foreign := blank()
	l, _ := log.Open(foreign)
	l.Append("no broker")
	for i, c := range []struct {
		d *disk.Disk
		e api.Errno
	}{{nil, api.ErrForm}, {small, api.ErrForm}, {off, api.ErrPower}, {foreign, api.ErrForm}} {
		if k, e := kernel.Open(c.d); k != nil || e != c.e {
			t.Errorf("%d: %v", i, e)
		}
	}
	d := blank()
	s, _ := store.Open(d)
	b := api.Broker{Sessions: []api.Session{{Client: "a", Subs: []api.Wish{{Filter: "#"}}}}}
	s.Save(b)
	k, e := kernel.Open(d)
	if e != api.OK || !same.Broker(k.Broker(), b) || len(k.Host().Conns) != 0 || k.Host().Count != 0 || k.Drops() != 0 || k.Lost() {
		t.Error(e, k.Broker())
	}
}

func TestArp(t *testing.T) {
	n := begin(t)
	for i, c := range []struct {
		dst  int
		a    api.Arp
		want bool
	}{
		{everybody, api.Arp{SrcMac: 7, SrcIP: 9, DstIP: api.IP}, true}, {api.Mac, api.Arp{SrcMac: 7, SrcIP: 9, DstIP: api.IP, DstMac: 5}, true},
		{everybody, api.Arp{SrcMac: 7, SrcIP: 9, DstIP: 8}, false}, {api.Mac, api.Arp{Reply: true, SrcMac: 7, SrcIP: 9, DstIP: api.IP}, false},
	} {
		b, _ := arp.Bytes(c.a)
		out, e := n.k.Frame(wrap(c.dst, 77, 0x0806, append(b, "padding"...)))
		if e != api.OK || len(out) != map[bool]int{true: 1}[c.want] {
			t.Fatal(i, out, e)
		}
		if c.want {
			f, _ := ether.Parse(out[0])
			a, _ := arp.Parse(f.Data)
			if f.Dst != 7 || f.Src != api.Mac || f.Type != 0x0806 || len(f.Data) != 28 || a != (api.Arp{Reply: true, SrcMac: api.Mac, SrcIP: api.IP, DstMac: 7, DstIP: 9}) {
				t.Error(i, f, a)
			}
		}
	}
	if n.k.Drops() != 0 {
		t.Error(n.k.Drops())
	}
}

func TestDrops(t *testing.T) {
	n := begin(t)
	p := api.Packet{Src: 9, Dst: api.IP, Proto: 6, TTL: 1, Data: segment(9, api.IP, api.Seg{SrcPort: 5, DstPort: 80, Flags: api.Syn})}
	whole := packet(p)
	with := func(f func(*api.Packet)) []byte {
		q := p
		f(&q)
		return packet(q)
	}
	torn := bytes.Clone(whole)
	torn[25]++
	badSum := bytes.Clone(whole)
	badSum[10]++
	for i, b := range [][]byte{
		nil, make([]byte, 13), make([]byte, api.MaxFrame+1), make([]byte, 99),
		wrap(api.Mac+1, 7, 0x0800, whole), wrap(everybody, 7, 0x0800, whole), wrap(0, 7, 0x0806, question(7, 9, api.IP)),
		wrap(api.Mac, 7, 0x0801, whole), wrap(api.Mac, 7, 0x86dd, nil), wrap(everybody, 7, 5, whole),
		wrap(everybody, 7, 0x0806, question(7, 9, api.IP)[:27]), wrap(api.Mac, 7, 0x0806, whole), wrap(api.Mac, 7, 0x0806, make([]byte, 28)),
		wrap(api.Mac, 7, 0x0800, nil), wrap(api.Mac, 7, 0x0800, badSum), wrap(api.Mac, 7, 0x0800, whole[:30]),
		wrap(api.Mac, 7, 0x0800, with(func(p *api.Packet) { p.Dst++ })), wrap(api.Mac, 7, 0x0800, with(func(p *api.Packet) { p.Dst = 1<<32 - 1 })), wrap(api.Mac, 7, 0x0800, with(func(p *api.Packet) { p.Proto = 17 })), wrap(api.Mac, 7, 0x0800, with(func(p *api.Packet) { p.Proto = 0 })),
		wrap(api.Mac, 7, 0x0800, torn), wrap(api.Mac, 7, 0x0800, with(func(p *api.Packet) { p.Data = nil })),
		wrap(api.Mac, 7, 0x0800, with(func(p *api.Packet) { p.Proto, p.Data = 1, echo(0, "1234") })), wrap(api.Mac, 7, 0x0800, with(func(p *api.Packet) { p.Proto, p.Data = 1, echo(8, "123") })), wrap(api.Mac, 7, 0x0800, with(func(p *api.Packet) { p.Proto, p.Data = 1, make([]byte, 8) })),
	} {
		out, e := n.k.Frame(b)
		if len(out) != 0 || e != api.OK || n.k.Drops() != i+1 {
			t.Fatal(i, out, e, n.k.Drops())
		}
	}
	// A segment that is answered, one that isn't, and one of nobody: none of them is dropped.
	drops := n.k.Drops()
	for _, flags := range []int{api.Syn, api.Rst, api.AckFlag} {
		out, e := n.k.Frame(wrap(api.Mac, 7, 0x0800, with(func(p *api.Packet) { p.Data = segment(9, api.IP, api.Seg{SrcPort: 5, DstPort: 80, Flags: flags}) })))
		if e != api.OK || n.k.Drops() != drops || (len(out) == 0) != (flags == api.Rst) {
			t.Error(flags, out, e, n.k.Drops())
		}
	}
}

// TestLearned: a dropped packet may still tell who has an address.
func TestLearned(t *testing.T) {
	n := begin(t)
	ip, mac, port := addr(1)
	c, _ := client.New(ip, mac, port, 5)
	syn := c.Dial()
	out, _ := n.k.Frame(syn)
	if f, p, s, ok := peel.Segment(out[0]); len(out) != 1 || !ok || f.Dst != mac || f.Src != api.Mac || p.Src != api.IP || p.Dst != ip || p.TTL != 64 || p.ID != 0 || s.DstPort != port || s.Flags != api.Syn|api.AckFlag || s.Ack != 6 {
		t.Error(f, p, s, ok)
	}
	// Another one says that it has the address: the frames go there from now on.
	n.k.Frame(wrap(api.Mac, 99, 0x0800, packet(api.Packet{Src: ip, Dst: api.IP, Proto: 17})))
	n.k.Tick()
	n.k.Tick()
	out, _ = n.k.Tick()
	if f, _, _, ok := peel.Segment(out[0]); len(out) != 1 || !ok || f.Dst != 99 {
		t.Error(f, ok)
	}
	n.k.Frame(wrap(everybody, 1, 0x0806, question(98, ip, 5)))
	out, _ = n.k.Frame(syn)
	if f, _, _, ok := peel.Segment(out[0]); !ok || f.Dst != mac { // its own frame tells again
		t.Error(f, ok)
	}
	// 16 others come, so it is forgotten, and nothing is sent to it.
	for k := range api.MaxArp {
		n.k.Tick()
		n.k.Frame(wrap(everybody, 1, 0x0806, question(98, 5000+k, 5)))
	}
	for range 50 {
		if out, e := n.k.Tick(); len(out) != 0 || e != api.OK {
			t.Fatal(out, e)
		}
	}
}

func TestIcmp(t *testing.T) {
	n := begin(t)
	b := echo(8, "1234and more")
	out, e := n.k.Frame(wrap(api.Mac, 7, 0x0800, packet(api.Packet{Src: 9, Dst: api.IP, Proto: 1, TTL: 3, ID: 777, Data: b})))
	if len(out) != 1 || e != api.OK {
		t.Fatal(out, e)
	}
	f, _ := ether.Parse(out[0])
	p, e := ip.Parse(f.Data)
	want, _ := icmp.Reply(b)
	if e != api.OK || f.Dst != 7 || f.Src != api.Mac || p.Src != api.IP || p.Dst != 9 || p.Proto != 1 || p.TTL != 64 || p.ID != 777 || !bytes.Equal(p.Data, want) {
		t.Error(f, p, e)
	}
	long := echo(8, strings.Repeat("x", api.MaxFrame-38))
	if out, e = n.k.Frame(wrap(api.Mac, 7, 0x0800, packet(api.Packet{Src: 9, Dst: api.IP, Proto: 1, Data: long}))); len(out) != 1 || len(out[0]) != api.MaxFrame || e != api.OK {
		t.Error(len(out), e)
	}
}

func TestMessages(t *testing.T) {
	n := begin(t)
	n.come("a", 1, connect("a", false))
	n.come("b", 2, connect("b", true))
	n.come("c", 3, connect("", true))
	n.is("a", "connack-0-false")
	n.say("b", subscribe("t/#", 2))
	n.say("c", subscribe("+/x", 0), only(api.MqPingreq, 0))
	n.say("a", publish("t/x", "1", 0, 0), publish("t/x", "2", 1, 5), publish("t/y", "3", 2, 6), publish("t/y", "3", 2, 6), only(api.MqPubrel, 6))
	n.is("a", "connack-0-false 4-5 5-6 5-6 7-6")
	n.is("b", "connack-0-false 9-9 t/x=1/0 t/x=2/1-1 t/y=3/2-2")
	n.is("c", "connack-0-false 9-9 13-0 t/x=1/0 t/x=2/0")
	n.say("b", only(api.MqPuback, 1), only(api.MqPubrec, 2), only(api.MqPubcomp, 2))
	n.is("b", "connack-0-false 9-9 t/x=1/0 t/x=2/1-1 t/y=3/2-2 6-2")
	// What the wire tells is what the clients got.
	for k, name := range []string{"a", "b", "c"} {
		ip, _, port := addr(k + 1)
		l, e := trace.Packets(n.frames, ip, port)
		if tell(l) != n.got(name) || e != api.OK {
			t.Errorf("%s: %q, %v", name, tell(l), e)
		}
	}
	if b := n.k.Broker(); len(b.Sessions) != 3 || b.Sessions[2].Client != "~3" || b.Sessions[2].Link != 3 || len(b.Links) != 0 {
		t.Error(b)
	}
	n.say("b", only(api.MqDisconnect, 0))
	if b := n.k.Broker(); len(b.Sessions) != 2 {
		t.Error(b)
	}
	ip, _, port := addr(2)
	if _, over, _ := trace.Stream(n.frames, ip, port); !over {
		t.Error("the stream to b goes on")
	}
	n.lasts()
}

// TestPieces: a packet may come in any pieces, and many in one.
func TestPieces(t *testing.T) {
	n := begin(t)
	ip, mac, port := addr(1)
	n.come("a", 1, connect("a", false))
	var all []byte
	for _, p := range []api.Mq{subscribe("#", 0), publish("t", "1", 0, 0), publish("t", "2", 1, 7), only(api.MqPingreq, 0)} {
		b, _ := pack.Bytes(p)
		all = append(all, b...)
	}
	h := n.k.Host().Conns[0]
	at := h.In.Next
	send := func(b []byte) {
		n.put(wrap(api.Mac, mac, 0x0800, packet(api.Packet{Src: ip, Dst: api.IP, Proto: 6, Data: segment(ip, api.IP, api.Seg{SrcPort: port, DstPort: api.Port, Seq: at, Ack: n.k.Host().Conns[0].Next, Flags: api.AckFlag, Window: 5000, Data: b})})))
		at += len(b)
	}
	for k := range all {
		send(all[k : k+1])
	}
	n.is("a", "connack-0-false 9-9 t=1/0 t=2/0 4-7 13-0")
	send(append(slices.Clone(all), all[:3]...))
	n.is("a", "connack-0-false 9-9 t=1/0 t=2/0 4-7 13-0 9-9 t=1/0 t=2/0 4-7 13-0")
	send(all[3:])
	n.is("a", "connack-0-false 9-9 t=1/0 t=2/0 4-7 13-0 9-9 t=1/0 t=2/0 4-7 13-0 9-9 t=1/0 t=2/0 4-7 13-0")
}

// raw sends bytes as the next ones of a client whose connection is the last.
func (n *net) raw(k, flags int, b []byte) {
	n.t.Helper()
	ip, mac, port := addr(k)
	for _, c := range n.k.Host().Conns {
		if c.PeerPort == port {
			n.put(wrap(api.Mac, mac, 0x0800, packet(api.Packet{Src: ip, Dst: api.IP, Proto: 6, Data: segment(ip, api.IP, api.Seg{SrcPort: port, DstPort: api.Port, Seq: c.In.Next, Ack: c.Next, Flags: flags, Window: 5000, Data: b})})))
		}
	}
}

// TestEnds: how connections end, and what the broker hears of it.
func TestEnds(t *testing.T) {
	will := connect("w", false)
	will.Will = api.Will{Is: true, Topic: "will", Payload: "gone"}
	ping, _ := pack.Bytes(only(api.MqPingreq, 0))
	garbage := append(slices.Clone(ping), 0, 0)
	for i, c := range []struct {
		flags int
		b     []byte
		pings int
		state int // of the connection, when it is over
		will  bool
	}{
		{api.AckFlag, garbage, 1, api.FinWait1, true},
		{api.AckFlag, append(slices.Clone(garbage), ping...), 1, api.FinWait1, true},
		{api.AckFlag | api.Fin, nil, 0, api.LastAck, true},
		{api.AckFlag | api.Fin, ping, 1, api.LastAck, true},
		{api.AckFlag | api.Fin, garbage, 1, api.LastAck, true},
		{api.AckFlag | api.Rst, nil, 0, api.Closed, true},
		{api.AckFlag, []byte("\xe0\x00\xc0\x00\xc0\x00"), 0, api.FinWait1, false},        // DISCONNECT, and more
		{api.AckFlag, []byte("\xe0\x00\x00\x00"), 0, api.FinWait1, false},                // DISCONNECT, and garbage
		{api.AckFlag, []byte("\xc0\x00\xd0\x00\xc0\x00"), 1, api.FinWait1, true},         // PINGRESP is none of a client's
		{api.AckFlag | api.Fin, []byte("\xe0\x00\xc0\x00"), 0, api.LastAck, false},       // DISCONNECT, and the end
		{api.AckFlag, []byte("\xc0\x00\x30\xff\xff\x7f\xc0\x00"), 1, api.FinWait1, true}, // too long
	} {
		n := begin(t)
		n.come("s", 2, connect("s", false))
		n.say("s", subscribe("#", 0))
		n.come("w", 1, will)
		n.raw(1, c.flags, c.b)
		n.is("w", "connack-0-false"+strings.Repeat(" 13-0", c.pings))
		n.is("s", "connack-0-false 9-9"+map[bool]string{true: " will=gone/0"}[c.will])
		state := api.Closed
		for _, x := range n.k.Host().Conns {
			if x.PeerPort == 5001 {
				state = x.State
			}
		}
		if b := n.k.Broker(); state != c.state || b.Sessions[1].Link != 0 || len(b.Links) != 0 {
			t.Errorf("%d: %d, %v", i, state, b)
		}
		n.tick(1)
		n.is("s", "connack-0-false 9-9"+map[bool]string{true: " will=gone/0"}[c.will])
		was := n.k.Broker()
		n.raw(1, api.AckFlag, ping) // whoever is no longer known changes nothing
		if !same.Broker(n.k.Broker(), was) {
			t.Errorf("%d: %v, not %v", i, n.k.Broker(), was)
		}
		n.lasts()
	}
}

// TestBeforeConnect: who says something else first, or nothing that is a packet, is closed.
func TestBeforeConnect(t *testing.T) {
	n := begin(t)
	n.come("a", 1, only(api.MqPingreq, 0))
	n.come("b", 2, publish("t", "x", 0, 0))
	n.come("c", 3, connect("", false))
	n.come("d", 4, connect("d", false))
	n.is("a", "")
	n.is("c", "connack-2-false")
	if b := n.k.Broker(); len(b.Links) != 0 || len(b.Sessions) != 1 {
		t.Error(b)
	}
	for _, c := range n.k.Host().Conns {
		if (c.State == api.Established) != (c.PeerPort == 5004) {
			t.Error(c)
		}
	}
	n.raw(4, api.AckFlag, []byte{0, 0})
	n.tick(1)
	if b := n.k.Broker(); b.Sessions[0].Link != 0 {
		t.Error(b)
	}
}

// TestTakeover: a client that comes again takes its session, and the old connection is closed.
func TestTakeover(t *testing.T) {
	n := begin(t)
	n.come("old", 1, connect("x", false))
	n.say("old", subscribe("#", 1))
	n.come("new", 2, connect("x", false))
	n.say("new", publish("t", "1", 1, 3))
	n.is("new", "connack-0-true t=1/1-1 4-3")
	n.is("old", "connack-0-false 9-9")
	ip, _, port := addr(1)
	if _, over, _ := trace.Stream(n.frames, ip, port); !over {
		t.Error("the old stream goes on")
	}
}

func TestKeepAlive(t *testing.T) {
	n := begin(t)
	n.come("s", 2, connect("s", false))
	n.say("s", subscribe("#", 0))
	p := connect("w", false)
	p.KeepAlive, p.Will = 1, api.Will{Is: true, Topic: "will", Payload: "late"}
	n.come("w", 1, p)
	n.tick(6)
	n.say("w", only(api.MqPingreq, 0))
	n.tick(6)
	n.is("s", "connack-0-false 9-9")
	n.tick(1)
	n.is("s", "connack-0-false 9-9 will=late/0")
	if b := n.k.Broker(); b.Sessions[1].Link != 0 {
		t.Error(b)
	}
	ip, _, port := addr(1)
	if _, over, _ := trace.Stream(n.frames, ip, port); !over {
		t.Error("the stream goes on")
	}
}

// TestDeaf: one who acknowledges nothing is lost at last, and its will is published.
func TestDeaf(t *testing.T) {
	n := begin(t)
	n.come("s", 2, connect("s", false))
	n.say("s", subscribe("will", 0))
	n.come("later", 3, connect("later", false))
	n.say("later", subscribe("will", 1), only(api.MqDisconnect, 0))
	p := connect("w", false)
	p.Will = api.Will{Is: true, Topic: "will", Payload: "lost", QoS: 1}
	n.come("w", 1, p)
	n.say("w", subscribe("t", 0))
	n.deaf["w"] = 1
	n.say("s", publish("t", "x", 0, 0))
	n.tick(284)
	n.is("s", "connack-0-false 9-9")
	n.tick(1)
	n.is("s", "connack-0-false 9-9 will=lost/0")
	for _, c := range n.k.Host().Conns {
		if c.PeerPort == 5001 {
			t.Error(c)
		}
	}
	if b := n.k.Broker(); len(b.Sessions[0].Out.Queue) != 1 {
		t.Error(b)
	}
	n.lasts()
}

// TestOverflow: one for whom too much waits is aborted at once; what comes of it is said behind all else.
func TestOverflow(t *testing.T) {
	n := begin(t)
	n.come("a", 1, connect("a", true))
	n.say("a", subscribe("will", 0))
	p := connect("w", false)
	p.Will = api.Will{Is: true, Topic: "will", Payload: "full"}
	n.come("b", 2, p)
	n.say("b", subscribe("t", 0))
	n.come("z", 3, connect("z", true))
	n.say("z", subscribe("#", 0))
	n.deaf["b"] = 1
	long := strings.Repeat("x", api.MaxPayload)
	count := 0
	for len(n.k.Host().Conns) == 3 {
		n.say("a", publish("t", long, 0, 0))
		if count++; count > 100 {
			t.Fatal("it never is full")
		}
	}
	if want := api.MaxOut/(2+2+1+1+api.MaxPayload) + 1; count != want {
		t.Errorf("%d messages, not %d", count, want)
	}
	n.is("a", "connack-0-false 9-9 will=full/0")
	n.is("z", "connack-0-false 9-9"+strings.Repeat(" t="+long+"/0", count)+" will=full/0")
	if b := n.k.Broker(); b.Sessions[1].Client != "w" || b.Sessions[1].Link != 0 {
		t.Error(b)
	}
	found := false
	for _, f := range n.frames {
		_, _, s, _ := peel.Segment(f)
		found = found || s.DstPort == 5002 && s.Flags&api.Rst != 0
	}
	if !found {
		t.Error("no RST was sent")
	}
}

// TestMany: there are never more than MaxConns connections, and MaxLinks links.
func TestMany(t *testing.T) {
	n := begin(t)
	for k := range 20 {
		ip, mac, port := addr(k)
		c, _ := client.New(ip, mac, port, k)
		n.put(c.Dial())
		n.put(c.Hear(n.frames[len(n.frames)-1:])...)
		if c.Up() != (k < api.MaxConns) {
			t.Errorf("client %d is up: %v", k, c.Up())
		}
	}
	if len(n.k.Host().Conns) != api.MaxConns || len(n.k.Broker().Links) != api.MaxLinks {
		t.Error(n.k.Host(), n.k.Broker())
	}
}

// TestNothingIsShared: what is handed out is a copy.
func TestNothingIsShared(t *testing.T) {
	n := begin(t)
	n.come("a", 1, connect("a", false))
	n.say("a", subscribe("#", 1), publish("t", "x", 1, 3))
	b, h := n.k.Broker(), n.k.Host()
	wasB, wasH := fmt.Sprint(b), fmt.Sprint(h)
	b.Sessions[0].Subs[0].QoS = 0
	b.Sessions[0].Out.Flight[0].ID = 99
	h.Conns[0].Link = 77
	clear(h.Conns[0].Out)
	if fmt.Sprint(n.k.Broker()) != wasB || fmt.Sprint(n.k.Host()) != wasH {
		t.Error("something is shared")
	}
	f := n.clients["a"].Hello()
	was := bytes.Clone(f)
	out, _ := n.k.Frame(f)
	clear(out[0])
	if !bytes.Equal(f, was) {
		t.Error("the argument was changed")
	}
}

// TestPower: when the power fails nothing is told, and all is as before.
func TestPower(t *testing.T) {
	for off := 1; off < 16; off++ {
		n := begin(t)
		n.come("a", 1, connect("a", false))
		n.say("a", subscribe("#", 1))
		n.d.Off(off)
		if _, e := n.k.Tick(); e != api.OK {
			t.Error("nothing was to be stored:", e)
		}
		n.k.Frame(nil)
		b, h := fmt.Sprint(n.k.Broker()), fmt.Sprint(n.k.Host())
		f, _ := n.clients["a"].Say(publish("t", "x", 1, 3))
		out, e := n.k.Frame(f)
		if e == api.OK {
			if off < 5 || len(out) == 0 {
				t.Error(off, "it was stored without power")
			}
			continue
		}
		for range 2 {
			if out != nil || e != api.ErrPower || !n.k.Lost() || fmt.Sprint(n.k.Broker()) != b || fmt.Sprint(n.k.Host()) != h || n.k.Drops() != 1 {
				t.Error(off, out, e, n.k.Lost(), n.k.Broker(), n.k.Host(), n.k.Drops())
			}
			out, e = n.k.Frame(nil)
		}
		if out, e := n.k.Tick(); out != nil || e != api.ErrPower {
			t.Error(off, out, e)
		}
	}
	// What changes nothing that lasts is done without power.
	n := begin(t)
	n.come("a", 1, connect("a", false))
	n.say("a", subscribe("#", 0))
	n.d.Off(0)
	n.say("a", only(api.MqPingreq, 0), publish("t", "x", 0, 0))
	n.is("a", "connack-0-false 9-9 13-0 t=x/0")
	// A will that waits for a client is stored in a tick, too.
	n = begin(t)
	p := connect("w", false)
	p.KeepAlive, p.Will = 1, api.Will{Is: true, Topic: "will", QoS: 1}
	n.come("w", 1, p)
	n.say("w", subscribe("#", 1))
	n.tick(6)
	n.d.Off(0)
	if out, e := n.k.Tick(); out != nil || e != api.ErrPower || !n.k.Lost() || n.k.Broker().Sessions[0].Link != 1 {
		t.Error(out, e, n.k.Broker())
	}
}

// TestCrashes: wherever the power fails, what was acknowledged is there, and a message of QoS 2 is distributed once.
func TestCrashes(t *testing.T) {
	r := rand.New(rand.NewSource(1))
	for round := range 60 {
		d := blank()
		k, _ := kernel.Open(d)
		var acked, sent int // messages of QoS 2 by number, as their PUBREC and PUBLISH tell
		pubrel := true
		heard := map[string]int{}
		for life := 0; life < 12; life++ {
			d.Off(1 + r.Intn(60))
			ip, mac, port := addr(life)
			pub, _ := client.New(ip, mac, port, r.Intn(1<<32))
			ip, mac, port = addr(100 + life)
			sub, _ := client.New(ip, mac, port, r.Intn(1<<32))
			lost := false
			var seen, recd int
			give := func(l ...[]byte) {
				for len(l) > 0 && !lost {
					out, e := k.Frame(l[0])
					lost = e != api.OK
					l = append(l[1:], append(pub.Hear(out), sub.Hear(out)...)...)
				}
			}
			say := func(c *client.Client, p api.Mq) {
				if b, e := c.Say(p); e == api.OK && !lost {
					give(b)
				}
			}
			give(pub.Dial())
			give(sub.Dial())
			say(pub, connect("pub", false))
			say(sub, connect("sub", false))
			say(sub, subscribe("t", 2))
			for step := 0; step < 40 && !lost; step++ {
				if pubrel {
					sent++
					pubrel = false
				}
				if acked != sent { // else its PUBREL is to be sent again
					p := publish("t", fmt.Sprint(sent), 2, 1+sent%7)
					p.Dup = step == 0
					say(pub, p)
				}
				l, _ := pub.Got()
				for _, x := range l[recd:] {
					if x.Kind == api.MqPubrec && x.ID == 1+sent%7 {
						acked = sent
					}
				}
				recd = len(l)
				if acked == sent && !lost {
					say(pub, only(api.MqPubrel, 1+sent%7))
					l, _ = pub.Got()
					for _, x := range l[recd:] {
						pubrel = pubrel || x.Kind == api.MqPubcomp && x.ID == 1+sent%7
					}
					recd = len(l)
				}
				l, _ = sub.Got()
				for ; seen < len(l); seen++ {
					switch x := l[seen]; x.Kind {
					case api.MqPublish:
						if !x.Dup || heard[x.Payload] == 0 {
							heard[x.Payload]++
						}
						say(sub, only(api.MqPubrec, x.ID))
					case api.MqPubrel:
						say(sub, only(api.MqPubcomp, x.ID))
					}
				}
			}
			before := k.Broker()
			d, _ = disk.New(d.Crash([]int{r.Intn(66), r.Intn(66), 1, 1, r.Intn(66), 0, 1, 1, 1}))
			k, _ = kernel.Open(d)
			if k == nil {
				t.Fatal("it can't be opened")
			}
			after := k.Broker()
			if !lost {
				if x, _ := broker.Durable(before); !same.Broker(x, after) {
					t.Fatal("another broker after a crash between the calls")
				}
			}
		}
		for x, times := range heard {
			if times > 1 {
				t.Fatalf("round %d: %s came %d times anew", round, x, times)
			}
		}
		if len(heard) < 3 {
			t.Error(len(heard), acked)
		}
	}
}

// TestAnyFrames: whatever arrives, nothing panics, and all stays valid.
func TestAnyFrames(t *testing.T) {
	r := rand.New(rand.NewSource(3))
	n := begin(t)
	n.come("a", 1, connect("a", false))
	n.say("a", subscribe("#", 2), publish("t", "x", 2, 3))
	seeds := slices.Clone(n.frames)
	b, _ := n.clients["a"].Say(publish("t", "y", 1, 4))
	seeds = append(seeds, b, n.clients["a"].Hello(), n.clients["a"].Dial())
	for range 5000 {
		f := bytes.Clone(seeds[r.Intn(len(seeds))])
		if r.Intn(2) == 0 {
			ip, mac, port := addr(1 + r.Intn(12))
			c := api.Conn{}
			for _, x := range n.k.Host().Conns {
				if x.PeerPort == port {
					c = x
				}
			}
			data := make([]byte, r.Intn(40))
			r.Read(data)
			f = wrap(api.Mac, mac, 0x0800, packet(api.Packet{Src: ip, Dst: api.IP, Proto: 6, Data: segment(ip, api.IP, api.Seg{SrcPort: port, DstPort: api.Port, Seq: c.In.Next, Ack: c.Next, Flags: []int{2, 16, 17, 20, r.Intn(64)}[r.Intn(5)], Window: r.Intn(3000), Data: data})}))
		} else {
			for range r.Intn(3) {
				f[r.Intn(len(f))] ^= 1 << r.Intn(8)
			}
		}
		if _, e := n.k.Frame(f); e != api.OK {
			t.Fatal(e)
		}
		if r.Intn(10) == 0 {
			n.k.Tick()
		}
		n.valid()
	}
}

// TestLossyWire: over a wire that loses and repeats frames every message reaches the subscriber, in order, once the clocks go on.
func TestLossyWire(t *testing.T) {
	r := rand.New(rand.NewSource(6))
	for range 10 {
		n := begin(t)
		n.come("p", 1, connect("p", false))
		n.come("s", 2, connect("s", false))
		n.say("s", subscribe("#", 2))
		// lossy hands frames to the kernel and what it answers to the clients, but for those that are lost.
		var lossy func(l [][]byte)
		hear := func(out [][]byte) {
			n.frames = append(n.frames, out...)
			for _, f := range out {
				for range []int{0, 1, 1, 1, 2}[r.Intn(5)] {
					for _, name := range n.names() {
						lossy(n.clients[name].Hear([][]byte{f}))
					}
				}
			}
		}
		lossy = func(l [][]byte) {
			for _, f := range l {
				for range []int{0, 1, 1, 1, 2}[r.Intn(5)] {
					out, e := n.k.Frame(f)
					if e != api.OK {
						t.Fatal(e)
					}
					hear(out)
				}
			}
		}
		// sure says a packet again and again, until the kernel has acknowledged it.
		sure := func(name string, k int, p api.Mq) {
			_, _, port := addr(k)
			next := func() int {
				for _, c := range n.k.Host().Conns {
					if c.PeerPort == port {
						return c.In.Next
					}
				}
				t.Fatal(name, "has lost its connection")
				return 0
			}
			was := next()
			f, e := n.clients[name].Say(p)
			for ; e == api.OK && next() == was; f, e = n.clients[name].Again() {
				lossy([][]byte{f})
				out, _ := n.k.Tick()
				hear(out)
			}
		}
		const count = 30
		said, seen := 0, 0
		var came []string
		for round := 0; round < 2000 && (said < count || len(came) < count); round++ {
			if waiting := n.k.Broker().Sessions[1].Out; said < count && len(waiting.Queue) < api.MaxQueue {
				said++
				sure("p", 1, publish("t", fmt.Sprint(said), 1+said%2, said))
			}
			out, _ := n.k.Tick()
			hear(out)
			n.valid()
			l, _ := n.clients["s"].Got()
			for ; seen < len(l); seen++ {
				switch p := l[seen]; {
				case p.Kind == api.MqPublish:
					came = append(came, p.Payload)
					sure("s", 2, only([]int{0, api.MqPuback, api.MqPubrec}[p.QoS], p.ID))
				case p.Kind == api.MqPubrel:
					sure("s", 2, only(api.MqPubcomp, p.ID))
				}
			}
			if said >= api.MaxIn { // identifiers are free again
				sure("p", 1, only(api.MqPubrel, said-api.MaxIn+1))
			}
		}
		for k := range count {
			if len(came) != count || came[k] != fmt.Sprint(k+1) {
				t.Fatalf("%v came", came)
			}
		}
		n.tick(100) // now nothing is lost any more
		for k, name := range []string{"p", "s"} {
			ip, _, port := addr(k + 1)
			if l, e := trace.Packets(n.frames, ip, port); tell(l) != n.got(name) || e != api.OK {
				t.Errorf("%s: the wire tells %q", name, tell(l))
			}
		}
		n.lasts()
	}
}
