package host_test

import (
	"bytes"
	"fmt"
	"math/rand"
	"slices"
	"strings"
	"testing"

	"kiosk/api"
	"kiosk/host"
	"kiosk/span"
	"kiosk/tcp"
)

const top = 1<<32 - 1

const (
	ack    = api.AckFlag
	fin    = api.AckFlag | api.Fin
	rstAck = api.AckFlag | api.Rst
)

func show(h api.Host) string { return strings.ReplaceAll(fmt.Sprintf("%v", h), "<nil>", "[]") }

// showSent tells segments as "ip from-to flags seq ack window data;".
func showSent(l []host.Sent) string {
	s := ""
	for _, x := range l {
		s += fmt.Sprintf("%d %d-%d %d %d %d %d %s;", x.IP, x.Seg.SrcPort, x.Seg.DstPort, x.Seg.Flags, x.Seg.Seq, x.Seg.Ack, x.Seg.Window, x.Seg.Data)
	}
	return s
}

func showHeard(l []api.Heard) string {
	s := ""
	for _, x := range l {
		s += fmt.Sprintf("%d %s %v;", x.Link, x.Data, x.End)
	}
	return s
}

func from(port, flags, seq, ack int, data string) api.Seg {
	return api.Seg{SrcPort: port, DstPort: api.Port, Seq: seq, Ack: ack, Flags: flags, Window: 2000, Data: []byte(data)}
}

// take takes a segment where no error may be.
func take(t *testing.T, h api.Host, ip int, s api.Seg) (api.Host, string, string) {
	t.Helper()
	was := show(h)
	g, l, heard, e := host.Take(h, ip, s)
	if e != api.OK || host.Check(g) != api.OK || show(h) != was {
		t.Fatalf("%v: %s", e, show(g))
	}
	return g, showSent(l), showHeard(heard)
}

// dial opens a connection from a port of the address 7 and makes it Established; its peer's next number is 501.
func dial(t *testing.T, h api.Host, port int) api.Host {
	t.Helper()
	h, _, _ = take(t, h, 7, from(port, api.Syn, 500, 0, ""))
	iss := span.Add(0, 64000*h.Count)
	h, _, _ = take(t, h, 7, from(port, ack, 501, iss+1, ""))
	if c := h.Conns[len(h.Conns)-1]; c.State != api.Established {
		t.Fatal(c)
	}
	return h
}

func good() api.Host {
	c := api.Conn{Link: 1, PeerIP: 7, PeerPort: 5000, Port: api.Port, State: api.Established, In: api.Buffer{Next: 500}}
	d := c
	d.Link, d.PeerPort = 3, 5001
	return api.Host{Conns: []api.Conn{c, d}, Count: 3}
}

func TestCheck(t *testing.T) {
	full := api.Host{Count: 100}
	for k := range api.MaxConns + 1 {
		full.Conns = append(full.Conns, api.Conn{Link: k + 1, PeerPort: k, Port: api.Port, State: api.Established})
	}
	other := good()
	other.Conns[1].PeerPort, other.Conns[1].PeerIP = 5000, 8
	for i, h := range []api.Host{{}, {Count: 1 << 40}, good(), other, {Conns: full.Conns[:api.MaxConns], Count: 8}} {
		if e := host.Check(h); e != api.OK {
			t.Errorf("%d: %v", i, e)
		}
	}
	bad := []api.Host{{Count: -1}, {Count: 1<<40 + 1}, full}
	for _, f := range []func(*api.Host){
		func(h *api.Host) { h.Conns[0].Link = 0 }, func(h *api.Host) { h.Count = 2 }, func(h *api.Host) { h.Conns[1].Link = 1 }, func(h *api.Host) { h.Conns[0].Link = 3; h.Conns[1].Link = 2 },
		func(h *api.Host) { h.Conns[1].PeerPort = 5000 }, func(h *api.Host) { h.Conns[1].Port = 80 }, func(h *api.Host) { h.Conns[0].State = api.Closed }, func(h *api.Host) { h.Conns[0].Window = -1 },
	} {
		h := good()
		f(&h)
		bad = append(bad, h)
	}
	for i, h := range bad {
		if e := host.Check(h); e != api.ErrForm {
			t.Errorf("%d: %v", i, e)
		}
		if g, l, heard, e := host.Take(h, 7, from(5000, api.Syn, 1, 0, "")); show(g) != show(api.Host{}) || l != nil || heard != nil || e != api.ErrForm {
			t.Errorf("%d: %v", i, e)
		}
		if g, l, heard, e := host.Tick(h); show(g) != show(api.Host{}) || l != nil || heard != nil || e != api.ErrForm {
			t.Errorf("%d: %v", i, e)
		}
		for _, f := range []func(api.Host, int) (api.Host, []host.Sent, api.Errno){func(h api.Host, n int) (api.Host, []host.Sent, api.Errno) { return host.Send(h, n, nil) }, host.Close, host.Abort} {
			if g, l, e := f(h, 99); show(g) != show(api.Host{}) || l != nil || e != api.ErrForm {
				t.Errorf("%d: %v", i, e)
			}
		}
	}
}

func TestWrongSegments(t *testing.T) {
	for i, f := range []func(*api.Seg) int{
		func(s *api.Seg) int { return -1 }, func(s *api.Seg) int { return top + 1 },
		func(s *api.Seg) int { s.SrcPort = -1; return 7 }, func(s *api.Seg) int { s.DstPort = 65536; return 7 }, func(s *api.Seg) int { s.Seq = -1; return 7 }, func(s *api.Seg) int { s.Flags = 64; return 7 },
		func(s *api.Seg) int { s.Data = make([]byte, api.MaxFrame-53); return 7 }, func(s *api.Seg) int { s.Window = -1; s.Flags = api.Rst; return 7 },
	} {
		s := from(5000, api.Syn, 1, 0, "")
		ip := f(&s)
		if g, l, heard, e := host.Take(good(), ip, s); show(g) != show(api.Host{}) || l != nil || heard != nil || e != api.ErrForm {
			t.Errorf("%d: %v", i, e)
		}
	}
}

func TestOpen(t *testing.T) {
	h, sent, heard := take(t, api.Host{}, 7, from(5000, api.Syn, 500, 0, ""))
	if sent != "7 1883-5000 18 64000 501 2048 ;" || heard != "" || h.Count != 1 || len(h.Conns) != 1 || h.Conns[0].Link != 1 || h.Conns[0].PeerIP != 7 {
		t.Error(show(h), sent, heard)
	}
	h, sent, _ = take(t, h, 8, from(5000, api.Syn|api.Fin, top, 0, "x"))
	if sent != "8 1883-5000 18 128000 0 2048 ;" || h.Count != 2 || len(h.Conns) != 2 {
		t.Error(show(h), sent)
	}
	h, _, _ = take(t, h, 7, from(5001, api.Syn, 500, 0, ""))
	h, _, _ = take(t, h, 7, from(5002, api.Syn, 500, 0, ""))
	g, sent, heard := take(t, h, 7, from(5003, api.Syn, 500, 0, ""))
	if sent != "7 1883-5003 20 0 501 0 ;" || heard != "" || show(g) != show(h) {
		t.Error("more than MaxSyn:", show(g), sent)
	}
	h, _, _ = take(t, h, 7, from(5000, ack, 501, 64001, "hi"))
	if h, sent, _ = take(t, h, 7, from(5003, api.Syn, 500, 0, "")); h.Count != 5 || sent != "7 1883-5003 18 320000 501 2048 ;" {
		t.Error(show(h), sent)
	}
	full := api.Host{Count: 1 << 39}
	for k := range api.MaxConns {
		full = dial(t, full, k)
	}
	if g, sent, _ = take(t, full, 7, from(5003, api.Syn, 500, 0, "")); sent != "7 1883-5003 20 0 501 0 ;" || show(g) != show(full) {
		t.Error("more than MaxConns:", sent)
	}
	h, sent, _ = take(t, api.Host{Count: 1<<40 - 1}, 7, from(5003, api.Syn, 500, 0, ""))
	if h.Count != 1<<40 || h.Conns[0].Link != 1<<40 || h.Conns[0].Una != (64000<<40)&top {
		t.Error(show(h))
	}
	if h, sent, _ = take(t, api.Host{Count: 1 << 40}, 7, from(5003, api.Syn, 500, 0, "")); sent != "7 1883-5003 20 0 501 0 ;" || h.Count != 1<<40 {
		t.Error(show(h), sent)
	}
}

func TestRefuse(t *testing.T) {
	h := dial(t, api.Host{}, 5000)
	to := func(s api.Seg, port int) api.Seg { s.DstPort = port; return s }
	for i, c := range []struct {
		ip   int
		s    api.Seg
		sent string
	}{
		{7, to(from(5000, api.Syn, 500, 9, ""), 80), "7 80-5000 20 0 501 0 ;"},
		{7, to(from(5000, api.Syn|api.Fin, top, 9, "ab"), 80), "7 80-5000 20 0 3 0 ;"},
		{7, to(from(5000, 0, 500, 9, ""), 80), "7 80-5000 20 0 500 0 ;"},
		{7, to(from(5000, ack, 501, 77, "ab"), 80), "7 80-5000 4 77 0 0 ;"},
		{8, from(5000, ack, 501, 64001, "ab"), "8 1883-5000 4 64001 0 0 ;"},
		{7, from(5001, fin, 501, top, ""), "7 1883-5001 4 4294967295 0 0 ;"},
		{7, from(5001, api.Syn|ack, 501, 5, ""), "7 1883-5001 4 5 0 0 ;"},
		{7, from(5001, api.Psh, 501, 5, "abc"), "7 1883-5001 20 0 504 0 ;"},
		{7, from(5001, api.Rst, 501, 5, "abc"), ""}, {7, from(5001, rstAck, 501, 5, ""), ""}, {7, from(5001, api.Syn|api.Rst, 501, 5, ""), ""}, {7, to(from(5000, rstAck, 501, 5, ""), 80), ""},
	} {
		g, sent, heard := take(t, h, c.ip, c.s)
		if sent != c.sent || heard != "" || show(g) != show(h) {
			t.Errorf("%d: %q, %q, %s", i, sent, heard, show(g))
		}
	}
}

func TestHeard(t *testing.T) {
	up := dial(t, dial(t, api.Host{}, 5000), 5001)
	iss := 128001
	g, sent, heard := take(t, up, 7, from(5001, ack, 501, iss, "hi"))
	if sent != fmt.Sprintf("7 1883-5001 16 %d 503 2048 ;", iss) || heard != "2 hi false;" || g.Conns[1].In.Next != 503 || g.Conns[0].In.Next != 501 {
		t.Error(sent, heard)
	}
	if _, _, heard = take(t, up, 7, from(5001, ack, 502, iss, "i")); heard != "" {
		t.Error("early:", heard)
	}
	if _, _, heard = take(t, up, 7, from(5001, ack, 501, iss, "")); heard != "" {
		t.Error("nothing:", heard)
	}
	g, _, heard = take(t, up, 7, from(5001, fin, 501, iss, "bye"))
	if heard != "2 bye true;" || g.Conns[1].State != api.CloseWait {
		t.Error(heard)
	}
	if _, _, heard = take(t, g, 7, from(5001, fin, 501, iss, "bye")); heard != "" {
		t.Error("a fin again:", heard)
	}
	h, _, _ := host.Close(g, 2)
	if h, sent, heard = take(t, h, 7, from(5001, ack, 505, iss+1, "")); heard != "2  true;" || len(h.Conns) != 1 || sent != "" {
		t.Error("the last acknowledgement:", heard, sent, show(h))
	}
	if h, _, heard = take(t, up, 7, from(5001, rstAck, 501, iss, "bye")); heard != "2  true;" || len(h.Conns) != 1 || h.Count != 2 {
		t.Error("rst:", heard, show(h))
	}
	// We close first.
	c, l, e := host.Close(up, 2)
	if showSent(l) != fmt.Sprintf("7 1883-5001 17 %d 501 2048 ;", iss) || e != api.OK || c.Conns[1].State != api.FinWait1 {
		t.Error(showSent(l), e)
	}
	if g, _, heard = take(t, c, 7, from(5001, fin, 501, iss, "x")); heard != "2 x true;" || g.Conns[1].State != api.Closings {
		t.Error("closings:", heard)
	}
	if g, _, heard = take(t, g, 7, from(5001, ack, 503, iss+1, "")); heard != "" || g.Conns[1].State != api.TimeWait {
		t.Error("time wait, but not by a fin:", heard)
	}
	if g, _, heard = take(t, c, 7, from(5001, ack, 501, iss+1, "x")); heard != "2 x false;" || g.Conns[1].State != api.FinWait2 {
		t.Error("fin wait 2:", heard)
	}
	if h, _, heard = take(t, g, 7, from(5001, fin, 502, iss+1, "")); heard != "2  true;" || h.Conns[1].State != api.TimeWait {
		t.Error("time wait:", heard)
	}
	if h, _, heard = take(t, c, 7, from(5001, fin, 501, iss+1, "")); heard != "2  true;" || h.Conns[1].State != api.TimeWait {
		t.Error("time wait at once:", heard)
	}
	if _, _, heard = take(t, h, 7, from(5001, fin, 501, iss+1, "")); heard != "" {
		t.Error("in time wait:", heard)
	}
	s, _, _ := take(t, api.Host{}, 7, from(5000, api.Syn, 500, 0, ""))
	if s, _, heard = take(t, s, 7, from(5000, fin, 501, 64001, "all")); heard != "1 all true;" || s.Conns[0].State != api.CloseWait {
		t.Error("from syn received:", heard)
	}
}

func TestSendCloseAbort(t *testing.T) {
	up := dial(t, dial(t, api.Host{}, 5000), 5001)
	was := show(up)
	b := []byte("hello")
	g, l, e := host.Send(up, 1, b)
	b[0] = 'X'
	if showSent(l) != "7 1883-5000 24 64001 501 2048 hello;" || e != api.OK || string(g.Conns[0].Out) != "hello" || host.Check(g) != api.OK {
		t.Error(showSent(l), e)
	}
	if g, l, e := host.Send(up, 1, make([]byte, api.MaxOut+1)); show(g) != show(api.Host{}) || l != nil || e != api.ErrFull {
		t.Error(e)
	}
	g, l, e = host.Close(g, 1)
	if showSent(l) != "7 1883-5000 17 64006 501 2048 ;" || e != api.OK {
		t.Error(showSent(l), e)
	}
	if _, l, e := host.Send(g, 1, b); l != nil || e != api.ErrState {
		t.Error(e)
	}
	if _, l, e := host.Close(g, 1); l != nil || e != api.ErrState {
		t.Error(e)
	}
	g, l, e = host.Abort(g, 1)
	if showSent(l) != "7 1883-5000 20 64007 501 2048 ;" || e != api.OK || len(g.Conns) != 1 || g.Conns[0].Link != 2 || g.Count != 2 {
		t.Error(showSent(l), e, show(g))
	}
	for _, link := range []int{0, 1, 3, -1, 1 << 62} {
		for k, f := range []func(api.Host, int) (api.Host, []host.Sent, api.Errno){func(h api.Host, n int) (api.Host, []host.Sent, api.Errno) { return host.Send(h, n, b) }, host.Close, host.Abort} {
			if x, l, e := f(g, link); show(x) != show(api.Host{}) || l != nil || e != api.ErrNone {
				t.Errorf("%d, %d: %v", link, k, e)
			}
		}
	}
	if show(up) != was {
		t.Error("an argument was changed")
	}
}

func TestTick(t *testing.T) {
	h := dial(t, dial(t, api.Host{}, 5000), 5001)
	h, _, _ = host.Send(h, 2, []byte("two"))
	h, _, _ = host.Send(h, 1, []byte("one"))
	for n := 1; ; n++ {
		was := show(h)
		g, l, heard, e := host.Tick(h)
		if e != api.OK || show(h) != was || host.Check(g) != api.OK {
			t.Fatal(e)
		}
		switch {
		case n == 285:
			if showSent(l) != "7 1883-5000 20 64004 501 2048 ;7 1883-5001 20 128004 501 2048 ;" || showHeard(heard) != "1  true;2  true;" || len(g.Conns) != 0 || g.Count != 2 {
				t.Error(showSent(l), showHeard(heard), show(g))
			}
			return
		case slices.Contains([]int{3, 9, 21, 45, 93, 141, 189, 237}, n):
			if showSent(l) != "7 1883-5000 24 64001 501 2048 one;7 1883-5001 24 128001 501 2048 two;" || heard != nil {
				t.Error(n, showSent(l))
			}
		default:
			if l != nil || heard != nil {
				t.Error(n, showSent(l), showHeard(heard))
			}
		}
		h = g
	}
}

// TestNothingIsShared: hosts, segments and what was heard have memory of their own.
func TestNothingIsShared(t *testing.T) {
	h := dial(t, dial(t, api.Host{}, 5000), 5001)
	h, _, _ = host.Send(h, 1, []byte("one"))
	h, _, _ = take(t, h, 7, from(5000, ack, 510, 64001, "early"))
	was := show(h)
	spoil := func(g api.Host, l []host.Sent) {
		for _, c := range g.Conns {
			clear(c.Out)
			for _, p := range c.In.Parts {
				clear(p.Data)
			}
			clear(c.In.Parts)
		}
		clear(g.Conns)
		for _, s := range l {
			clear(s.Seg.Data)
		}
	}
	g, l, _, _ := host.Take(h, 7, from(5001, ack, 501, 128001, "x"))
	spoil(g, l)
	g, l, _, _ = host.Take(h, 9, from(5001, api.Syn, 501, 0, "x"))
	spoil(g, l)
	g, l, _, _ = host.Tick(h)
	spoil(g, l)
	g, l, _ = host.Send(h, 2, []byte("x"))
	spoil(g, l)
	g, l, _ = host.Close(h, 1)
	spoil(g, l)
	g, l, _ = host.Abort(h, 2)
	spoil(g, l)
	if show(h) != was {
		t.Error("an argument was changed")
	}
}

// TestAnySegments: whatever comes, the host stays valid, and does with a connection what tcp does.
func TestAnySegments(t *testing.T) {
	r := rand.New(rand.NewSource(1))
	for range 300 {
		var h api.Host
		for range 80 {
			s := from(5000+r.Intn(6), []int{api.Syn, ack, ack, fin, r.Intn(64)}[r.Intn(5)], r.Intn(3)*500, 0, strings.Repeat("x", r.Intn(20)))
			ip := 7 + r.Intn(2)
			want, at := api.Conn{}, -1
			for i, c := range h.Conns {
				if c.PeerIP == ip && c.PeerPort == s.SrcPort {
					s.Ack = span.Add(c.Next, -r.Intn(2))
					s.Seq = span.Add(c.In.Next, r.Intn(3)-1)
					want, _, _, _ = tcp.Take(c, s)
					at = i
				}
			}
			g, _, _, e := host.Take(h, ip, s)
			if e != api.OK || host.Check(g) != api.OK {
				t.Fatal(e, show(g))
			}
			if at >= 0 && want.State != api.Closed && (g.Conns[at].State != want.State || !bytes.Equal(g.Conns[at].Out, want.Out)) {
				t.Fatal(show(g), want)
			}
			if at >= 0 && want.State == api.Closed && len(g.Conns) != len(h.Conns)-1 {
				t.Fatal("a closed connection stays")
			}
			h = g
			switch r.Intn(4) {
			case 0:
				h, _, _, _ = host.Tick(h)
			case 1:
				if len(h.Conns) > 0 {
					if g, _, e := host.Close(h, h.Conns[r.Intn(len(h.Conns))].Link); e == api.OK {
						h = g
					}
				}
			}
		}
	}
}
