package kernel

import (
	"slices"

	"kiosk/api"
	"kiosk/arp"
	"kiosk/ether"
	"kiosk/host"
	"kiosk/icmp"
	"kiosk/ip"
	"kiosk/seg"
)

const (
	everybody = 1<<48 - 1
	typeARP   = 0x0806
	typeIPv4  = 0x0800
	protoICMP = 1
	protoTCP  = 6
	ttl       = 64
)

// state is what the next call goes on from. What it holds is replaced, but never changed: the state before a call stays whole until the call is over.
type state struct {
	near   []api.Neighbour
	host   api.Host
	rests  []rest
	broker api.Broker
	drops  int
}

// rest is what is left of the stream of a connection: the beginning of a packet.
type rest struct {
	link int
	b    []byte
}

// turn is one call at work, and the frames that it sends.
type turn struct {
	state
	out     [][]byte
	changed bool // the broker was asked for something that may last
}

// frame processes a frame, and tells whether it was understood.
func (t *turn) frame(b []byte) bool {
	f, e := ether.Parse(b)
	if e != api.OK || f.Dst != api.Mac && f.Dst != everybody {
		goto drop
	}
	switch {
	case f.Type == typeARP:
		return t.arp(f)
	case f.Type == typeIPv4 && f.Dst == api.Mac:
		return t.packet(f)
	}
drop:
	return false
}

func (t *turn) arp(f api.Frame) bool {
	a, e := arp.Parse(f.Data)
	if e != api.OK || !t.learn(a.SrcIP, a.SrcMac) {
		return false
	}
	if !a.Reply && a.DstIP == api.IP {
		b, _ := arp.Bytes(api.Arp{Reply: true, SrcMac: api.Mac, SrcIP: api.IP, DstMac: a.SrcMac, DstIP: a.SrcIP})
		t.send(a.SrcMac, typeARP, b)
	}
	return true
}

func (t *turn) learn(ip, mac int) bool {
	l, e := arp.Learn(t.near, ip, mac)
	if e == api.OK {
		t.near = l
	}
	return e == api.OK
}

func (t *turn) packet(f api.Frame) bool {
	p, e := ip.Parse(f.Data)
	if e != api.OK || p.Dst != api.IP || !t.learn(p.Src, f.Src) {
		return false
	}
	switch p.Proto {
	case protoICMP:
		r, e := icmp.Reply(p.Data)
		if e != api.OK {
			return false
		}
		t.sendPacket(api.Packet{Dst: p.Src, Proto: protoICMP, ID: p.ID, Data: r})
		return true
	case protoTCP:
		s, e := seg.Parse(p.Src, p.Dst, p.Data)
		if e != api.OK {
			return false
		}
		t.segment(p.Src, s)
		return true
	}
	return false
}

func (t *turn) send(mac, kind int, data []byte) {
	if b, e := ether.Bytes(api.Frame{Dst: mac, Src: api.Mac, Type: kind, Data: data}); e == api.OK {
		t.out = append(t.out, b)
	}
}

// sendPacket sends to whom it knows; to others it sends nothing.
func (t *turn) sendPacket(p api.Packet) {
	mac, e := arp.Find(t.near, p.Dst)
	if e != api.OK {
		return
	}
	p.Src, p.TTL = api.IP, ttl
	if b, e := ip.Bytes(p); e == api.OK {
		t.send(mac, typeIPv4, b)
	}
}

func (t *turn) sendAll(l []host.Sent) {
	for _, s := range l {
		if b, e := seg.Bytes(api.IP, s.IP, s.Seg); e == api.OK {
			t.sendPacket(api.Packet{Dst: s.IP, Proto: protoTCP, Data: b})
		}
	}
}

// use takes what a function of host returns, if it is no error.
func (t *turn) use(h api.Host, l []host.Sent, e api.Errno) api.Errno {
	if e == api.OK {
		t.host = h
		t.sendAll(l)
	}
	return e
}

func (t *turn) rest(link int) []byte {
	for _, r := range t.rests {
		if r.link == link {
			return r.b
		}
	}
	return nil
}

func (t *turn) setRest(link int, b []byte) {
	l := slices.DeleteFunc(slices.Clone(t.rests), func(r rest) bool { return r.link == link })
	if len(b) > 0 {
		l = append(l, rest{link: link, b: b})
	}
	t.rests = l
}

// forgetEnded drops what is left of connections that are no more.
func (t *turn) forgetEnded() {
	t.rests = slices.DeleteFunc(slices.Clone(t.rests), func(r rest) bool {
		return !slices.ContainsFunc(t.host.Conns, func(c api.Conn) bool { return c.Link == r.link })
	})
}
