package client_test

import (
	"bytes"
	"fmt"
	"strings"
	"testing"

	"kiosk/api"
	"kiosk/arp"
	"kiosk/client"
	"kiosk/ether"
	"kiosk/ip"
	"kiosk/pack"
	"kiosk/peel"
	"kiosk/seg"
)

const (
	addr = 0x0a000002
	mac  = 0x0200000000aa
	port = 5000
	top  = 1<<32 - 1
)

const (
	synAck = api.Syn | api.AckFlag
	data   = api.AckFlag | api.Psh
	fin    = api.AckFlag | api.Fin
)

// wrap makes a frame of a segment.
func wrap(f api.Frame, p api.Packet, s api.Seg) []byte {
	b, _ := seg.Bytes(p.Src, p.Dst, s)
	p.Data = b
	b, _ = ip.Bytes(p)
	f.Data = b
	b, _ = ether.Bytes(f)
	return b
}

// from makes a frame of the kernel to the client.
func from(flags, seq, ack int, x string) []byte {
	return wrap(api.Frame{Dst: mac, Src: api.Mac, Type: 0x0800}, api.Packet{Src: api.IP, Dst: addr, Proto: 6, TTL: 64}, api.Seg{SrcPort: api.Port, DstPort: port, Seq: seq, Ack: ack, Flags: flags, Data: []byte(x)})
}

// tell tells a frame of the client as "flags seq ack data", and what else is wrong with it.
func tell(b []byte) string {
	f, p, s, ok := peel.Segment(b)
	x := fmt.Sprintf("%d %d %d %s", s.Flags, s.Seq, s.Ack, s.Data)
	if !ok || f.Dst != api.Mac || f.Src != mac || p.Src != addr || p.Dst != api.IP || p.TTL != 64 || p.ID != 0 || s.SrcPort != port || s.DstPort != api.Port || s.Window != 65535 {
		x += fmt.Sprint(" in ", f, p, s)
	}
	return x
}

func made(t *testing.T, iss int) *client.Client {
	t.Helper()
	c, e := client.New(addr, mac, port, iss)
	if e != api.OK || c.Up() {
		t.Fatal(e)
	}
	return c
}

// up makes a client that is up: it says 101 next, and expects 701.
func up(t *testing.T) *client.Client {
	t.Helper()
	c := made(t, 100)
	c.Dial()
	c.Hear([][]byte{from(synAck, 700, 101, "")})
	if !c.Up() {
		t.Fatal("not up")
	}
	return c
}

func TestNew(t *testing.T) {
	for _, x := range [][4]int{{-1, 0, 0, 0}, {top + 1, 0, 0, 0}, {0, -1, 0, 0}, {0, 1 << 48, 0, 0}, {0, 0, -1, 0}, {0, 0, 65536, 0}, {0, 0, 0, -1}, {0, 0, 0, top + 1}} {
		if c, e := client.New(x[0], x[1], x[2], x[3]); c != nil || e != api.ErrForm {
			t.Errorf("%v: %v", x, e)
		}
	}
	for _, x := range [][4]int{{0, 0, 0, 0}, {top, 1<<48 - 1, 65535, top}} {
		if c, e := client.New(x[0], x[1], x[2], x[3]); c == nil || e != api.OK {
			t.Errorf("%v: %v", x, e)
		}
	}
}

func TestHello(t *testing.T) {
	f, e := ether.Parse(made(t, 1).Hello())
	if e != api.OK || f.Dst != api.Mac || f.Src != mac || f.Type != 0x0806 || len(f.Data) != 28 {
		t.Error(f, e)
	}
	if a, e := arp.Parse(f.Data); a != (api.Arp{SrcMac: mac, SrcIP: addr, DstIP: api.IP}) || e != api.OK {
		t.Error(a, e)
	}
}

func TestDial(t *testing.T) {
	c := made(t, top)
	if s := tell(c.Dial()); s != fmt.Sprintf("2 %d 0 ", top) {
		t.Error(s)
	}
	if l := c.Hear([][]byte{from(synAck, 700, 0, "")}); len(l) != 1 || tell(l[0]) != "16 0 701 " || !c.Up() {
		t.Error(l)
	}
	b, e := c.Say(api.Mq{Kind: api.MqPingreq})
	if tell(b) != "24 0 701 \xc0\x00" || e != api.OK {
		t.Error(tell(b), e)
	}
	c.Hear([][]byte{from(data, 701, 0, "\xd0\x00")})
	if s := tell(c.Dial()); s != fmt.Sprintf("2 %d 0 ", top) || c.Up() {
		t.Error(s)
	}
	if l, e := c.Got(); len(l) != 0 || e != api.OK {
		t.Error(l, e)
	}
	if b, e := c.Again(); b != nil || e != api.ErrState {
		t.Error(e)
	}
	if l := c.Hear([][]byte{from(synAck, 900, 0, "")}); len(l) != 1 || tell(l[0]) != "16 0 901 " {
		t.Error(l)
	}
}

func TestHear(t *testing.T) {
	for i, c := range []struct {
		l    [][]byte
		want string // the answer, or none
		up   bool
		got  int
	}{
		{nil, "", true, 0},
		{[][]byte{from(data, 701, 101, "\xd0\x00")}, "16 101 703 ", true, 1},
		{[][]byte{from(data, 701, 101, "\xd0"), from(data, 702, 101, "\x00\xd0\x00")}, "16 101 705 ", true, 2},
		{[][]byte{from(data, 703, 101, "\xd0\x00")}, "", true, 0},
		{[][]byte{from(data, 703, 101, "\xd0\x00"), from(data, 701, 101, "\xd0\x00")}, "16 101 703 ", true, 1},
		{[][]byte{from(data, 700, 101, "\x00\xd0\x00")}, "", true, 0},
		{[][]byte{from(data, 701, 101, "\xd0\x00"), from(data, 701, 101, "\xd0\x00")}, "16 101 703 ", true, 1},
		{[][]byte{from(0, 701, 0, "\xd0\x00")}, "16 101 703 ", true, 1},
		{[][]byte{from(api.AckFlag, 701, 101, "")}, "", true, 0},
		{[][]byte{from(fin, 701, 101, "")}, "16 101 702 ", true, 0},
		{[][]byte{from(fin, 701, 101, "\xd0\x00")}, "16 101 704 ", true, 1},
		{[][]byte{from(fin, 702, 101, "")}, "", true, 0},
		{[][]byte{from(api.Rst, 701, 101, "\xd0\x00")}, "", false, 0},
		{[][]byte{from(api.Rst|synAck, 701, 101, "")}, "", false, 0},
		{[][]byte{from(data, 701, 101, "\xd0\x00"), from(api.Rst, 5, 5, ""), from(data, 703, 101, "\xd0\x00")}, "16 101 703 ", false, 1},
		{[][]byte{from(data, 701, 101, "\xd0\x00"), from(synAck, 800, 101, "\xd0\x00")}, "16 101 801 ", true, 0},
		{[][]byte{from(api.Rst, 0, 0, ""), from(synAck, 800, 101, ""), from(data, 801, 0, "\xd0\x00")}, "16 101 803 ", true, 1},
		{[][]byte{from(synAck, 800, 102, "")}, "", true, 0}, {[][]byte{from(api.Syn, 800, 101, "")}, "", true, 0}, {[][]byte{from(api.Syn, 701, 101, "\xd0\x00")}, "", true, 0},
		{[][]byte{nil, {1, 2, 3}, from(data, 701, 101, "\xd0\x00")[:50]}, "", true, 0},
	} {
		x := up(t)
		l := x.Hear(c.l)
		got := ""
		if len(l) == 1 {
			got = tell(l[0])
		}
		p, e := x.Got()
		if len(l) > 1 || got != c.want || x.Up() != c.up || len(p) != c.got || e != api.OK {
			t.Errorf("%d: %q, %v, %v, %v", i, got, x.Up(), p, e)
		}
	}
	x := made(t, 100)
	x.Dial()
	if l := x.Hear([][]byte{from(synAck, 700, 100, ""), from(data, 0, 0, "\xd0\x00"), from(fin, 0, 0, "")}); l != nil || x.Up() {
		t.Error("not up, but it answers")
	}
	x = up(t)
	x.Hear([][]byte{from(synAck, top, 101, ""), from(data, 0, 0, "\xd0\x00")})
	if b, e := x.Bye(); tell(b) != "17 101 2 " || e != api.OK {
		t.Error(tell(b), e)
	}
}

// TestOtherFrames: what isn't whole, or isn't for this client, does not count.
func TestOtherFrames(t *testing.T) {
	f := api.Frame{Dst: mac, Src: api.Mac, Type: 0x0800}
	p := api.Packet{Src: api.IP, Dst: addr, Proto: 6, TTL: 64}
	s := api.Seg{SrcPort: api.Port, DstPort: port, Seq: 701, Ack: 101, Flags: data, Data: []byte("\xd0\x00")}
	for i, g := range []func(*api.Frame, *api.Packet, *api.Seg){
		func(f *api.Frame, p *api.Packet, s *api.Seg) { f.Dst++ }, func(f *api.Frame, p *api.Packet, s *api.Seg) { f.Dst = 1<<48 - 1 }, func(f *api.Frame, p *api.Packet, s *api.Seg) { f.Type = 0x0806 },
		func(f *api.Frame, p *api.Packet, s *api.Seg) { p.Src++ }, func(f *api.Frame, p *api.Packet, s *api.Seg) { p.Dst++ }, func(f *api.Frame, p *api.Packet, s *api.Seg) { p.Proto = 17 },
		func(f *api.Frame, p *api.Packet, s *api.Seg) { s.SrcPort++ }, func(f *api.Frame, p *api.Packet, s *api.Seg) { s.DstPort++ },
	} {
		f, p, s := f, p, s
		g(&f, &p, &s)
		c := up(t)
		if l := c.Hear([][]byte{wrap(f, p, s)}); l != nil {
			t.Errorf("%d: it answers", i)
		}
		s.Flags = api.Rst
		if c.Hear([][]byte{wrap(f, p, s)}); !c.Up() {
			t.Errorf("%d: it is no longer up", i)
		}
	}
	whole := wrap(f, p, s)
	for _, at := range []int{14, 16, 24, 30, 34, 47, 54} {
		torn := bytes.Clone(whole)
		torn[at] ^= 8
		if l := up(t).Hear([][]byte{torn}); l != nil {
			t.Errorf("torn at %d: it answers", at)
		}
	}
	f.Src = 5
	if l := up(t).Hear([][]byte{wrap(f, p, s)}); len(l) != 1 {
		t.Error("from any MAC address")
	}
}

func TestSay(t *testing.T) {
	c := made(t, 100)
	for range 2 {
		if b, e := c.Say(api.Mq{}); b != nil || e != api.ErrState {
			t.Error(e)
		}
		if b, e := c.Bye(); b != nil || e != api.ErrState {
			t.Error(e)
		}
		if b, e := c.Again(); b != nil || e != api.ErrState {
			t.Error(e)
		}
		c.Dial()
	}
	c = up(t)
	long := api.Mq{Kind: api.MqUnsubscribe, ID: 1}
	for range 8 {
		long.Filters = append(long.Filters, strings.Repeat("x", 64))
	}
	if b, e := c.Say(long); len(b) != 0 && e != api.OK || e == api.OK && len(b) != 54+5+8*66 {
		t.Error(len(b), e)
	}
	c = up(t)
	tooLong := api.Mq{Kind: api.MqSubscribe, ID: 1}
	for range 8 {
		tooLong.Wishes = append(tooLong.Wishes, api.Wish{Filter: strings.Repeat("x", 64)})
	}
	for i, x := range []struct {
		p api.Mq
		e api.Errno
	}{{api.Mq{}, api.ErrForm}, {api.Mq{Kind: api.MqPuback}, api.ErrForm}, {tooLong, api.ErrLimit}} {
		if b, e := c.Say(x.p); b != nil || e != x.e {
			t.Errorf("%d: %v", i, e)
		}
		if b, e := c.Again(); b != nil || e != api.ErrState {
			t.Errorf("%d: %v", i, e)
		}
	}
	fits := tooLong
	fits.Wishes[0].Filter = fits.Wishes[0].Filter[5:]
	if b, _ := pack.Bytes(fits); len(b) != api.MaxSeg {
		t.Fatal(len(b))
	}
	d := up(t)
	if b, e := d.Say(fits); len(b) != 54+api.MaxSeg || e != api.OK {
		t.Error(len(b), e)
	}
	// One packet, the next, one again, and the end.
	b, e := c.Say(api.Mq{Kind: api.MqPingreq})
	if tell(b) != "24 101 701 \xc0\x00" || e != api.OK {
		t.Error(tell(b), e)
	}
	c.Hear([][]byte{from(data, 701, 0, "x")})
	b, e = c.Say(api.Mq{Kind: api.MqDisconnect})
	if tell(b) != "24 103 702 \xe0\x00" || e != api.OK {
		t.Error(tell(b), e)
	}
	c.Hear([][]byte{from(data, 702, 0, "x")})
	for range 2 {
		b, e = c.Again()
		if tell(b) != "24 103 702 \xe0\x00" || e != api.OK {
			t.Error(tell(b), e)
		}
		clear(b)
	}
	b, e = c.Bye()
	if tell(b) != "17 105 703 " || e != api.OK {
		t.Error(tell(b), e)
	}
	b, e = c.Say(api.Mq{Kind: api.MqPingreq})
	if tell(b) != "24 106 703 \xc0\x00" || e != api.OK {
		t.Error(tell(b), e)
	}
	c.Hear([][]byte{from(api.Rst, 0, 0, "")})
	if b, e = c.Say(api.Mq{Kind: api.MqPingreq}); b != nil || e != api.ErrState {
		t.Error(e)
	}
	if b, e = c.Again(); tell(b) != "24 106 703 \xc0\x00" || e != api.OK {
		t.Error(tell(b), e)
	}
}

func TestGot(t *testing.T) {
	c := up(t)
	c.Hear([][]byte{from(data, 701, 101, "\xd0\x00\x20\x02")})
	if l, e := c.Got(); len(l) != 1 || l[0].Kind != api.MqPingresp || e != api.OK {
		t.Error(l, e)
	}
	c.Hear([][]byte{from(data, 705, 101, "\x01\x00\x00\x00")})
	if l, e := c.Got(); len(l) != 2 || !l[1].Present || e != api.ErrForm {
		t.Error(l, e)
	}
	c.Hear([][]byte{from(api.Rst, 0, 0, "")})
	if l, e := c.Got(); len(l) != 2 || e != api.ErrForm {
		t.Error(l, e)
	}
}
