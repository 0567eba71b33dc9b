package tcp_test

import (
	"bytes"
	"fmt"
	"math/rand"
	"slices"
	"strings"
	"testing"

	"kiosk/api"
	"kiosk/span"
	"kiosk/tcp"
)

const top = 1<<32 - 1

var started = api.Timer{On: true, Left: api.FirstWait, Wait: api.FirstWait}
var waiting = api.Timer{On: true, Left: api.LastWait, Wait: api.LastWait}

// conn makes a connection in a state: Una is 100, In.Next 500, and sent bytes of out are sent (and the FIN, where the state has one).
func conn(state int, out string, sent int) api.Conn {
	c := api.Conn{Link: 1, PeerIP: 7, PeerPort: 5000, Port: api.Port, State: state, Una: 100, Next: 100 + sent, Window: 1000, Out: []byte(out), In: api.Buffer{Next: 500}}
	switch state {
	case api.SynReceived:
		c.Next, c.Timer = 101, started
	case api.FinWait1, api.Closings, api.LastAck:
		c.Closing, c.Next, c.Timer = true, 100+len(out)+1, started
	case api.FinWait2:
		c.Closing = true
	case api.TimeWait:
		c.Closing, c.Timer = true, waiting
	}
	return c
}

// with changes a connection.
func with(c api.Conn, f func(*api.Conn)) api.Conn {
	f(&c)
	return c
}

// from makes a segment of the peer.
func from(flags, seq, ack int, data string) api.Seg {
	return api.Seg{SrcPort: 5000, DstPort: api.Port, Seq: seq, Ack: ack, Flags: flags, Window: 2000, Data: []byte(data)}
}

func showConn(c api.Conn) string {
	c.Out = append([]byte{}, c.Out...)
	c.In.Parts = append([]api.Part{}, c.In.Parts...)
	return fmt.Sprintf("%v", c)
}

// showSegs tells segments as "flags seq ack window data;".
func showSegs(l []api.Seg) string {
	s := ""
	for _, x := range l {
		s += fmt.Sprintf("%d %d %d %d %s;", x.Flags, x.Seq, x.Ack, x.Window, x.Data)
		if x.SrcPort != api.Port || x.DstPort != 5000 {
			s += fmt.Sprintf(" between the ports %d and %d", x.SrcPort, x.DstPort)
		}
	}
	return s
}

const (
	ack    = api.AckFlag
	push   = api.AckFlag | api.Psh
	fin    = api.AckFlag | api.Fin
	synAck = api.AckFlag | api.Syn
	rstAck = api.AckFlag | api.Rst
)

// seg tells one segment as showSegs does, with the Window of a connection.
func seg(flags, seq, ack int, data string) string {
	return fmt.Sprintf("%d %d %d 2048 %s;", flags, seq, ack, data)
}

func TestCheck(t *testing.T) {
	for i, c := range []api.Conn{
		{}, {Closing: true, Una: 5, Next: 99, Window: 65535, PeerIP: top, PeerPort: 65535, Port: 65535, Link: 1 << 40},
		conn(api.SynReceived, "", 0), conn(api.SynReceived, "abc", 0), conn(api.Established, "", 0), conn(api.Established, "abc", 0), conn(api.Established, "abc", 3), conn(api.CloseWait, "abc", 2),
		conn(api.FinWait1, "", 0), conn(api.FinWait1, "abc", 0), conn(api.Closings, "abc", 0), conn(api.LastAck, "", 0), conn(api.FinWait2, "", 0), conn(api.TimeWait, "", 0),
		with(conn(api.Established, strings.Repeat("x", api.MaxOut), 0), func(c *api.Conn) { c.Closing = true }),
		with(conn(api.Established, "abc", 0), func(c *api.Conn) { c.Una, c.Next = top, 2 }),
	} {
		if e := tcp.Check(c); e != api.OK {
			t.Errorf("%d: %v", i, e)
		}
	}
	est := conn(api.Established, "abc", 1)
	part := []api.Part{{Seq: 502, Data: []byte("x")}}
	for i, c := range []api.Conn{
		with(est, func(c *api.Conn) { c.Link = -1 }), with(est, func(c *api.Conn) { c.Link = 1<<40 + 1 }),
		with(est, func(c *api.Conn) { c.PeerIP = -1 }), with(est, func(c *api.Conn) { c.PeerIP = top + 1 }),
		with(est, func(c *api.Conn) { c.PeerPort = -1 }), with(est, func(c *api.Conn) { c.PeerPort = 65536 }),
		with(est, func(c *api.Conn) { c.Port = -1 }), with(est, func(c *api.Conn) { c.Port = 65536 }),
		with(est, func(c *api.Conn) { c.State = -1 }), with(est, func(c *api.Conn) { c.State = 9 }),
		with(est, func(c *api.Conn) { c.Una, c.Next = -1, 0 }), with(est, func(c *api.Conn) { c.Una, c.Next = top, top+1 }),
		with(est, func(c *api.Conn) { c.Window = -1 }), with(est, func(c *api.Conn) { c.Window = 65536 }),
		with(est, func(c *api.Conn) { c.Out = make([]byte, api.MaxOut+1) }),
		with(est, func(c *api.Conn) { c.In.Next = -1 }), with(est, func(c *api.Conn) { c.In.Parts = []api.Part{{Seq: 500, Data: []byte("x")}} }),
		with(est, func(c *api.Conn) { c.Timer.Left = 1 }), with(est, func(c *api.Conn) { c.Timer.Tries = 9 }),
		with(est, func(c *api.Conn) { c.Next = 104 }), with(est, func(c *api.Conn) { c.Next = 99 }),
		with(api.Conn{}, func(c *api.Conn) { c.Out = []byte("x") }), with(api.Conn{}, func(c *api.Conn) { c.In.Next, c.In.Parts = 500, part }),
		with(conn(api.FinWait2, "", 0), func(c *api.Conn) { c.State = -1 }), with(conn(api.FinWait2, "", 0), func(c *api.Conn) { c.State = 9 }),
		with(api.Conn{}, func(c *api.Conn) { c.Una = -1 }), with(api.Conn{}, func(c *api.Conn) { c.Una = top + 1 }), with(api.Conn{}, func(c *api.Conn) { c.Next = -1 }), with(api.Conn{}, func(c *api.Conn) { c.Next = top + 1 }),
		with(api.Conn{}, func(c *api.Conn) { c.Timer.Wait = 1 }), with(api.Conn{}, func(c *api.Conn) { c.Timer.Tries = 1 }),
		with(conn(api.SynReceived, "", 0), func(c *api.Conn) { c.Next = 100 }), with(conn(api.SynReceived, "ab", 0), func(c *api.Conn) { c.Next = 102 }),
		with(conn(api.CloseWait, "ab", 0), func(c *api.Conn) { c.Next = 103 }),
		with(conn(api.FinWait1, "ab", 0), func(c *api.Conn) { c.Closing = false }), with(conn(api.FinWait1, "ab", 0), func(c *api.Conn) { c.Next = 102 }),
		with(conn(api.Closings, "ab", 0), func(c *api.Conn) { c.Next = 104 }), with(conn(api.LastAck, "", 0), func(c *api.Conn) { c.Next = 100 }), with(conn(api.LastAck, "", 0), func(c *api.Conn) { c.Closing = false }),
		with(conn(api.FinWait2, "", 0), func(c *api.Conn) { c.Closing = false }), with(conn(api.FinWait2, "", 0), func(c *api.Conn) { c.Next = 101 }), conn(api.FinWait2, "a", 0),
		with(conn(api.TimeWait, "", 0), func(c *api.Conn) { c.Closing = false }), with(conn(api.TimeWait, "", 0), func(c *api.Conn) { c.Next = 101 }), conn(api.TimeWait, "a", 0),
	} {
		if e := tcp.Check(c); e != api.ErrForm {
			t.Errorf("%d: %v", i, e)
		}
		x, l, told, e := tcp.Take(c, from(ack, 500, 100, ""))
		if showConn(x) != showConn(api.Conn{}) || l != nil || told != nil || e != api.ErrForm {
			t.Errorf("%d: Take: %v, %v", i, x, e)
		}
		for k, f := range []func(api.Conn) (api.Conn, []api.Seg, api.Errno){func(c api.Conn) (api.Conn, []api.Seg, api.Errno) { return tcp.Send(c, nil) }, tcp.Close, tcp.Abort, tcp.Tick} {
			if x, l, e := f(c); showConn(x) != showConn(api.Conn{}) || l != nil || e != api.ErrForm {
				t.Errorf("%d, %d: %v, %v", i, k, x, e)
			}
		}
	}
}

func TestOpen(t *testing.T) {
	c, l, e := tcp.Open(3, 7, 100, from(api.Syn, 500, 9, "ignored"))
	want := api.Conn{Link: 3, PeerIP: 7, PeerPort: 5000, Port: api.Port, State: api.SynReceived, Una: 100, Next: 101, Window: 2000, In: api.Buffer{Next: 501}, Timer: started}
	if showConn(c) != showConn(want) || showSegs(l) != seg(synAck, 100, 501, "") || e != api.OK {
		t.Error(c, l, e)
	}
	c, l, e = tcp.Open(1<<40, top, top, from(api.Syn|api.Fin|api.Psh|32, top, 0, ""))
	if c.Next != 0 || c.In.Next != 0 || showSegs(l) != seg(synAck, top, 0, "") || e != api.OK || tcp.Check(c) != api.OK {
		t.Error(c, l, e)
	}
	syn := from(api.Syn, 500, 0, "")
	for i, f := range []func() (api.Conn, []api.Seg, api.Errno){
		func() (api.Conn, []api.Seg, api.Errno) { return tcp.Open(-1, 7, 100, syn) },
		func() (api.Conn, []api.Seg, api.Errno) { return tcp.Open(1<<40+1, 7, 100, syn) },
		func() (api.Conn, []api.Seg, api.Errno) { return tcp.Open(1, -1, 100, syn) },
		func() (api.Conn, []api.Seg, api.Errno) { return tcp.Open(1, top+1, 100, syn) },
		func() (api.Conn, []api.Seg, api.Errno) { return tcp.Open(1, 7, -1, syn) },
		func() (api.Conn, []api.Seg, api.Errno) { return tcp.Open(1, 7, top+1, syn) },
		func() (api.Conn, []api.Seg, api.Errno) { return tcp.Open(1, 7, 1, from(synAck, 500, 0, "")) },
		func() (api.Conn, []api.Seg, api.Errno) { return tcp.Open(1, 7, 1, from(api.Syn|api.Rst, 500, 0, "")) },
		func() (api.Conn, []api.Seg, api.Errno) { return tcp.Open(1, 7, 1, from(0, 500, 0, "")) },
		func() (api.Conn, []api.Seg, api.Errno) { return tcp.Open(1, 7, 1, from(api.Syn, -1, 0, "")) },
		func() (api.Conn, []api.Seg, api.Errno) {
			return tcp.Open(1, 7, 1, from(api.Syn, 1, 0, strings.Repeat("x", api.MaxFrame-53)))
		},
	} {
		if c, l, e := f(); showConn(c) != showConn(api.Conn{}) || l != nil || e != api.ErrForm {
			t.Errorf("%d: %v, %v", i, c, e)
		}
	}
	for i, f := range wrongFields() {
		s := syn
		f(&s)
		if c, l, e := tcp.Open(1, 7, 100, s); showConn(c) != showConn(api.Conn{}) || l != nil || e != api.ErrForm {
			t.Errorf("%d: %v, %v", i, c, e)
		}
	}
	c, l, e = tcp.Open(0, 0, 0, from(api.Syn, 0, 0, strings.Repeat("x", api.MaxFrame-54)))
	if c.State != api.SynReceived || len(l) != 1 || e != api.OK {
		t.Error(c, l, e)
	}
}

// wrongFields make a segment invalid, each by one field.
func wrongFields() []func(*api.Seg) {
	return []func(*api.Seg){
		func(s *api.Seg) { s.SrcPort = -1 }, func(s *api.Seg) { s.SrcPort = 65536 }, func(s *api.Seg) { s.DstPort = -1 }, func(s *api.Seg) { s.DstPort = 65536 },
		func(s *api.Seg) { s.Seq = -1 }, func(s *api.Seg) { s.Seq = top + 1 }, func(s *api.Seg) { s.Ack = -1 }, func(s *api.Seg) { s.Ack = top + 1 },
		func(s *api.Seg) { s.Flags = api.Syn - 64 }, func(s *api.Seg) { s.Flags |= 64 }, func(s *api.Seg) { s.Flags = 64 }, func(s *api.Seg) { s.Window = -1 }, func(s *api.Seg) { s.Window = 65536 },
		func(s *api.Seg) { s.Data = make([]byte, api.MaxFrame-53) },
	}
}

// TestWrongSegments: of another peer, or not valid.
func TestWrongSegments(t *testing.T) {
	c := conn(api.Established, "", 0)
	for i, f := range append(wrongFields(), func(s *api.Seg) { s.SrcPort = 5001 }, func(s *api.Seg) { s.DstPort = 80 }) {
		s := from(ack, 500, 100, "")
		f(&s)
		if x, l, told, e := tcp.Take(c, s); showConn(x) != showConn(api.Conn{}) || l != nil || told != nil || e != api.ErrForm {
			t.Errorf("%d: %v, %v", i, x, e)
		}
	}
}

type take struct {
	name  string
	c     api.Conn
	s     api.Seg
	want  api.Conn // the zero value: as it was
	segs  string
	bytes string
}

func (x take) run(t *testing.T) {
	t.Helper()
	was := showConn(x.c)
	c, l, told, e := tcp.Take(x.c, x.s)
	if x.want.Link == 0 {
		x.want = x.c
	}
	if showConn(c) != showConn(x.want) || showSegs(l) != x.segs || string(told) != x.bytes || e != api.OK {
		t.Errorf("%s:\n %v\n %v\n %q %q %v", x.name, showConn(c), showConn(x.want), showSegs(l), told, e)
	}
	if e := tcp.Check(c); e != api.OK {
		t.Errorf("%s: %v", x.name, e)
	}
	if showConn(x.c) != was {
		t.Errorf("%s: the argument was changed", x.name)
	}
}

func window(c *api.Conn) { c.Window = 2000 }

func TestAcceptable(t *testing.T) {
	est, tw := conn(api.Established, "", 0), conn(api.TimeWait, "", 0)
	tw.Timer.Left = 2
	old := tw
	old.Timer = waiting
	dup := seg(ack, 100, 500, "")
	for _, x := range []take{
		{"closed", with(conn(api.Closed, "", 0), func(c *api.Conn) { c.Timer = api.Timer{} }), from(ack, 500, 100, "x"), api.Conn{}, "", ""},
		{"closed, rst", conn(api.Closed, "", 0), from(api.Rst, 500, 100, "x"), api.Conn{}, "", ""},
		{"before", est, from(ack, 499, 100, ""), api.Conn{}, dup, ""},
		{"before, with data", est, from(ack, 498, 100, "xy"), api.Conn{}, dup, ""},
		{"behind", est, from(ack, 500+2048, 100, ""), api.Conn{}, dup, ""},
		{"behind, with syn", est, from(api.Syn, 99999, 0, ""), api.Conn{}, dup, ""},
		{"behind, with rst", est, from(api.Rst, 500+2048, 100, ""), api.Conn{}, "", ""},
		{"an old syn", est, from(api.Syn, 499, 0, ""), api.Conn{}, dup, ""},
		{"syn and a byte", est, from(api.Syn, 499, 0, "x"), api.Conn{}, dup, ""},
		{"the last number", est, from(ack, 500+2047, 100, ""), with(est, window), "", ""},
		{"the last byte", est, from(ack, 499, 100, "xy"), with(est, func(c *api.Conn) { c.In.Next, c.Window = 501, 2000 }), seg(ack, 100, 501, ""), "y"},
		{"a fin that is the only new", est, from(fin, 498, 100, "xy"), with(est, func(c *api.Conn) { c.In.Next, c.State, c.Window = 501, api.CloseWait, 2000 }), seg(ack, 100, 501, ""), ""},
		{"rst", est, from(api.Rst, 502, 0, ""), with(est, func(c *api.Conn) { c.State = api.Closed }), "", ""},
		{"rst, with data", conn(api.FinWait1, "ab", 0), from(rstAck, 500, 100, "xx"), with(conn(api.FinWait1, "", 0), func(c *api.Conn) { c.State, c.Next, c.Timer = api.Closed, 103, api.Timer{} }), "", ""},
		{"rst drops parts", with(est, func(c *api.Conn) { c.In.Parts = []api.Part{{Seq: 502, Data: []byte("x")}} }), from(api.Rst, 500, 0, ""), with(est, func(c *api.Conn) { c.State = api.Closed }), "", ""},
		{"syn", est, from(api.Syn, 500, 0, ""), api.Conn{}, dup, ""},
		{"syn and ack", est, from(synAck, 510, 100, ""), api.Conn{}, dup, ""},
		{"no ack", est, from(api.Psh, 500, 100, "xy"), api.Conn{}, "", ""},
		{"no ack, fin", est, from(api.Fin, 500, 100, "xy"), api.Conn{}, "", ""},
		{"time wait, before", tw, from(fin, 499, 100, ""), old, dup, ""},
		{"time wait, syn and a byte", tw, from(api.Syn, 499, 0, "x"), api.Conn{}, dup, ""},
		{"time wait, syn", tw, from(api.Syn, 499, 0, ""), old, dup, ""},
		{"time wait, before, rst", tw, from(rstAck, 499, 100, ""), api.Conn{}, "", ""},
		{"time wait, within", tw, from(ack, 500, 100, ""), with(tw, window), "", ""},
		{"time wait, data", tw, from(ack, 500, 100, "xy"), with(tw, window), dup, ""},
		{"around zero", with(est, func(c *api.Conn) { c.In.Next = top }), from(ack, top, 100, "xyz"), with(est, func(c *api.Conn) { c.In.Next, c.Window = 2, 2000 }), seg(ack, 100, 2, ""), "xyz"},
		{"around zero, outside", with(est, func(c *api.Conn) { c.In.Next = top }), from(ack, 2047, 100, ""), api.Conn{}, seg(ack, 100, top, ""), ""},
	} {
		x.run(t)
	}
}

func TestAcknowledgement(t *testing.T) {
	syn := conn(api.SynReceived, "", 0)
	up := conn(api.Established, "", 0)
	up.Una, up.Next, up.Window = 101, 101, 2000
	half := with(conn(api.Established, "abcdef", 4), func(c *api.Conn) { c.Timer = started; c.Timer.Left, c.Timer.Tries = 1, 2 })
	last := conn(api.LastAck, "ab", 0)
	for _, x := range []take{
		{"syn received", syn, from(ack, 500, 101, ""), up, "", ""},
		{"syn received, data", syn, from(ack, 500, 101, "hi"), with(up, func(c *api.Conn) { c.In.Next = 502 }), seg(ack, 101, 502, ""), "hi"},
		{"syn received, fin", syn, from(fin, 500, 101, "hi"), with(up, func(c *api.Conn) { c.In.Next, c.State = 503, api.CloseWait }), seg(ack, 101, 503, ""), "hi"},
		{"syn received, too little", syn, from(ack, 500, 100, "hi"), api.Conn{}, "4 100 0 0 ;", ""},
		{"syn received, too much", syn, from(ack, 500, 102, "hi"), api.Conn{}, "4 102 0 0 ;", ""},
		{"syn received, closing", with(syn, func(c *api.Conn) { c.Closing = true }), from(ack, 500, 101, ""), with(up, func(c *api.Conn) { c.Closing, c.State, c.Next, c.Timer = true, api.FinWait1, 102, started }), seg(fin, 101, 500, ""), ""},
		{"syn received, with out", with(syn, func(c *api.Conn) { c.Out = []byte("ab") }), from(ack, 500, 101, ""), with(up, func(c *api.Conn) { c.Out, c.Next, c.Timer = []byte("ab"), 103, started }), seg(push, 101, 500, "ab"), ""},
		{"nothing new", half, from(ack, 500, 100, ""), with(half, func(c *api.Conn) { c.Window, c.Next = 2000, 106 }), seg(push, 104, 500, "ef"), ""},
		{"an old one", half, from(ack, 500, 50, ""), with(half, func(c *api.Conn) { c.Window, c.Next = 2000, 106 }), seg(push, 104, 500, "ef"), ""},
		{"some", half, from(ack, 500, 103, ""), with(half, func(c *api.Conn) { c.Window, c.Una, c.Next, c.Out, c.Timer = 2000, 103, 106, []byte("def"), started }), seg(push, 104, 500, "ef"), ""},
		{"all that was sent", half, from(ack, 500, 104, ""), with(half, func(c *api.Conn) { c.Window, c.Una, c.Next, c.Out, c.Timer = 2000, 104, 106, []byte("ef"), started }), seg(push, 104, 500, "ef"), ""},
		{"too much", half, from(ack, 500, 105, "hi"), api.Conn{}, seg(ack, 104, 500, ""), ""},
		{"all", conn(api.Established, "ab", 2), from(ack, 500, 102, ""), with(conn(api.Established, "", 0), func(c *api.Conn) { c.Una, c.Next, c.Window = 102, 102, 2000 }), "", ""},
		{"no timer, and still some", conn(api.Established, "ab", 2), from(ack, 500, 101, ""), with(conn(api.Established, "b", 0), func(c *api.Conn) { c.Una, c.Next, c.Window, c.Timer = 101, 102, 2000, started }), "", ""},
		{"fin wait 1, the data", conn(api.FinWait1, "ab", 0), from(ack, 500, 102, ""), with(conn(api.FinWait1, "", 0), func(c *api.Conn) { c.Una, c.Next, c.Window = 102, 103, 2000 }), "", ""},
		{"fin wait 1, the fin", conn(api.FinWait1, "ab", 0), from(ack, 500, 103, ""), with(conn(api.FinWait2, "", 0), func(c *api.Conn) { c.Una, c.Next, c.Window = 103, 103, 2000 }), "", ""},
		{"fin wait 1, fin and fin", conn(api.FinWait1, "ab", 0), from(fin, 500, 103, "hi"), with(conn(api.TimeWait, "", 0), func(c *api.Conn) { c.Una, c.Next, c.Window, c.In.Next = 103, 103, 2000, 503 }), seg(ack, 103, 503, ""), "hi"},
		{"closings, the data", conn(api.Closings, "ab", 0), from(ack, 500, 102, ""), with(conn(api.Closings, "", 0), func(c *api.Conn) { c.Una, c.Next, c.Window = 102, 103, 2000 }), "", ""},
		{"closings, the fin", conn(api.Closings, "", 0), from(ack, 500, 101, ""), with(conn(api.TimeWait, "", 0), func(c *api.Conn) { c.Una, c.Next, c.Window = 101, 101, 2000 }), "", ""},
		{"last ack, some", last, from(ack, 500, 101, ""), with(conn(api.LastAck, "b", 0), func(c *api.Conn) { c.Una, c.Next, c.Window = 101, 103, 2000 }), "", ""},
		{"last ack, the fin", last, from(ack, 500, 103, ""), with(last, func(c *api.Conn) { c.Una, c.Window, c.State, c.Out, c.Timer = 103, 2000, api.Closed, nil, api.Timer{} }), "", ""},
		{"last ack, the fin, and data", last, from(ack, 500, 103, "hi"), with(last, func(c *api.Conn) { c.Una, c.Window, c.State, c.Out, c.Timer = 103, 2000, api.Closed, nil, api.Timer{} }), seg(ack, 103, 500, ""), ""},
		{"around zero", with(conn(api.Established, "abcd", 0), func(c *api.Conn) { c.Una, c.Next = top-1, 2 }), from(ack, 500, 1, ""), with(conn(api.Established, "d", 0), func(c *api.Conn) { c.Una, c.Next, c.Window, c.Timer = 1, 2, 2000, started }), "", ""},
	} {
		x.run(t)
	}
}

func TestDataAndFin(t *testing.T) {
	est := conn(api.Established, "", 0)
	early := with(est, func(c *api.Conn) { c.In.Parts = []api.Part{{Seq: 503, Data: []byte("d")}} })
	cw := conn(api.CloseWait, "", 0)
	told := func(next int) func(*api.Conn) {
		return func(c *api.Conn) { c.In.Next, c.Window, c.In.Parts = next, 2000, nil }
	}
	for _, x := range []take{
		{"data", est, from(ack, 500, 100, "abc"), with(est, told(503)), seg(ack, 100, 503, ""), "abc"},
		{"early", est, from(ack, 503, 100, "d"), with(early, window), seg(ack, 100, 500, ""), ""},
		{"in between", early, from(ack, 499, 100, "?abcX"), with(est, told(504)), seg(ack, 100, 504, ""), "abcd"},
		{"a fin, and a gap", early, from(fin, 500, 100, "ab"), with(early, func(c *api.Conn) { c.In.Next, c.Window = 502, 2000 }), seg(ack, 100, 502, ""), "ab"},
		{"an early fin", est, from(fin, 503, 100, "d"), with(early, window), seg(ack, 100, 500, ""), ""},
		{"a fin behind more", early, from(fin, 500, 100, "abc"), with(est, told(504)), seg(ack, 100, 504, ""), "abcd"},
		{"fin", est, from(fin, 500, 100, ""), with(with(est, told(501)), func(c *api.Conn) { c.State = api.CloseWait }), seg(ack, 100, 501, ""), ""},
		{"data and fin", est, from(fin, 500, 100, "ab"), with(with(est, told(503)), func(c *api.Conn) { c.State = api.CloseWait }), seg(ack, 100, 503, ""), "ab"},
		{"closing, data and fin", with(conn(api.Established, "ab", 0), func(c *api.Conn) { c.Closing = true }), from(fin, 500, 100, "xy"), with(conn(api.LastAck, "ab", 0), told(503)), seg(ack, 100, 503, "") + seg(push, 100, 503, "ab") + seg(fin, 102, 503, ""), "xy"},
		{"fin wait 1", conn(api.FinWait1, "", 0), from(fin, 500, 100, "ab"), with(with(conn(api.FinWait1, "", 0), told(503)), func(c *api.Conn) { c.State = api.Closings }), seg(ack, 101, 503, ""), "ab"},
		{"fin wait 1, data", conn(api.FinWait1, "", 0), from(ack, 500, 100, "ab"), with(conn(api.FinWait1, "", 0), told(502)), seg(ack, 101, 502, ""), "ab"},
		{"fin wait 2, data", conn(api.FinWait2, "", 0), from(ack, 500, 100, "ab"), with(conn(api.FinWait2, "", 0), told(502)), seg(ack, 100, 502, ""), "ab"},
		{"fin wait 2", conn(api.FinWait2, "", 0), from(fin, 500, 100, "ab"), with(conn(api.TimeWait, "", 0), told(503)), seg(ack, 100, 503, ""), "ab"},
		{"close wait hears nothing", cw, from(ack, 500, 100, "ab"), with(cw, window), seg(ack, 100, 500, ""), ""},
		{"close wait, another fin", cw, from(fin, 500, 100, ""), with(cw, window), seg(ack, 100, 500, ""), ""},
		{"closings hears nothing", conn(api.Closings, "", 0), from(ack, 500, 100, "ab"), with(conn(api.Closings, "", 0), window), seg(ack, 101, 500, ""), ""},
		{"last ack hears nothing", conn(api.LastAck, "", 0), from(ack, 500, 100, "ab"), with(conn(api.LastAck, "", 0), window), seg(ack, 101, 500, ""), ""},
		{"a window opens", with(conn(api.CloseWait, "abc", 0), func(c *api.Conn) { c.Window = 0 }), with2(from(ack, 500, 100, ""), 2), with(conn(api.CloseWait, "abc", 2), func(c *api.Conn) { c.Window, c.Timer = 2, started }), seg(push, 100, 500, "ab"), ""},
		{"a window closes", conn(api.Established, "abc", 1), with2(from(ack, 500, 101, ""), 0), with(conn(api.Established, "bc", 0), func(c *api.Conn) { c.Una, c.Next, c.Window, c.Timer = 101, 101, 0, started }), "", ""},
	} {
		x.run(t)
	}
}

func with2(s api.Seg, window int) api.Seg {
	s.Window = window
	return s
}

func TestSend(t *testing.T) {
	long := strings.Repeat("0123456789", 120)
	for i, c := range []struct {
		c    api.Conn
		b    string
		want api.Conn
		segs string
		e    api.Errno
	}{
		{conn(api.Established, "", 0), "hello", with(conn(api.Established, "hello", 5), func(c *api.Conn) { c.Timer = started }), seg(push, 100, 500, "hello"), api.OK},
		{conn(api.CloseWait, "ab", 1), "cd", with(conn(api.CloseWait, "abcd", 4), func(c *api.Conn) { c.Timer = started }), seg(push, 101, 500, "bcd"), api.OK},
		{conn(api.Established, "", 0), "", conn(api.Established, "", 0), "", api.OK},
		{conn(api.Established, "", 0), long, with(conn(api.Established, long, 1000), func(c *api.Conn) { c.Timer = started }), seg(push, 100, 500, long[:536]) + seg(push, 636, 500, long[536:1000]), api.OK},
		{with(conn(api.Established, "abc", 3), func(c *api.Conn) { c.Window = 2 }), "d", with(conn(api.Established, "abcd", 3), func(c *api.Conn) { c.Window, c.Timer = 2, started }), "", api.OK},
		{with(conn(api.Established, "", 0), func(c *api.Conn) { c.Window = 0 }), "d", with(conn(api.Established, "d", 0), func(c *api.Conn) { c.Window, c.Timer = 0, started }), "", api.OK},
		{with(conn(api.Established, "ab", 2), func(c *api.Conn) { c.Timer = api.Timer{On: true, Left: 1, Wait: 6, Tries: 1} }), "c", with(conn(api.Established, "abc", 3), func(c *api.Conn) { c.Timer = api.Timer{On: true, Left: 1, Wait: 6, Tries: 1} }), seg(push, 102, 500, "c"), api.OK},
		{conn(api.SynReceived, "", 0), "a", api.Conn{}, "", api.ErrState}, {conn(api.Closed, "", 0), "a", api.Conn{}, "", api.ErrState},
		{conn(api.FinWait1, "", 0), "a", api.Conn{}, "", api.ErrState}, {conn(api.LastAck, "", 0), "", api.Conn{}, "", api.ErrState}, {conn(api.TimeWait, "", 0), "a", api.Conn{}, "", api.ErrState},
		{with(conn(api.Established, "ab", 0), func(c *api.Conn) { c.Closing = true }), strings.Repeat("a", 9000), api.Conn{}, "", api.ErrState},
		{conn(api.Established, "ab", 2), strings.Repeat("a", api.MaxOut-1), api.Conn{}, "", api.ErrFull},
		{with(conn(api.Established, "ab", 2), func(c *api.Conn) { c.Window = 2 }), strings.Repeat("a", api.MaxOut-2), with(conn(api.Established, "ab"+strings.Repeat("a", api.MaxOut-2), 2), func(c *api.Conn) { c.Window, c.Timer = 2, started }), "", api.OK},
	} {
		b := []byte(c.b)
		x, l, e := tcp.Send(c.c, b)
		clear(b)
		if showConn(x) != showConn(c.want) || showSegs(l) != c.segs || e != c.e {
			t.Errorf("%d: %.300s, %.300s, %v", i, showConn(x), showSegs(l), e)
		}
	}
}

func TestClose(t *testing.T) {
	shut := with(conn(api.Established, "abc", 1), func(c *api.Conn) { c.Window = 2 })
	for i, c := range []struct {
		c    api.Conn
		want api.Conn
		segs string
		e    api.Errno
	}{
		{conn(api.Established, "", 0), conn(api.FinWait1, "", 0), seg(fin, 100, 500, ""), api.OK},
		{conn(api.CloseWait, "", 0), conn(api.LastAck, "", 0), seg(fin, 100, 500, ""), api.OK},
		{conn(api.Established, "ab", 1), conn(api.FinWait1, "ab", 0), seg(push, 101, 500, "b") + seg(fin, 102, 500, ""), api.OK},
		{shut, with(shut, func(c *api.Conn) { c.Closing, c.Next, c.Timer = true, 102, started }), seg(push, 101, 500, "b"), api.OK},
		{conn(api.SynReceived, "", 0), with(conn(api.SynReceived, "", 0), func(c *api.Conn) { c.Closing = true }), "", api.OK},
		{with(shut, func(c *api.Conn) { c.Closing = true }), api.Conn{}, "", api.ErrState},
		{conn(api.Closed, "", 0), api.Conn{}, "", api.ErrState}, {conn(api.FinWait1, "", 0), api.Conn{}, "", api.ErrState}, {conn(api.FinWait2, "", 0), api.Conn{}, "", api.ErrState},
		{conn(api.Closings, "", 0), api.Conn{}, "", api.ErrState}, {conn(api.LastAck, "", 0), api.Conn{}, "", api.ErrState}, {conn(api.TimeWait, "", 0), api.Conn{}, "", api.ErrState},
	} {
		if x, l, e := tcp.Close(c.c); showConn(x) != showConn(c.want) || showSegs(l) != c.segs || e != c.e {
			t.Errorf("%d: %s, %s, %v", i, showConn(x), showSegs(l), e)
		}
	}
}

func TestAbort(t *testing.T) {
	for state := api.Closed; state <= api.TimeWait; state++ {
		c := conn(state, "", 0)
		if state == api.Established || state == api.CloseWait {
			c = conn(state, "abc", 2)
			c.In.Parts = []api.Part{{Seq: 502, Data: []byte("x")}}
		}
		want, segs := c, seg(rstAck, c.Next, 500, "")
		want.State, want.Out, want.In.Parts, want.Timer = api.Closed, nil, nil, api.Timer{}
		if state == api.Closed {
			segs = ""
		}
		if x, l, e := tcp.Abort(c); showConn(x) != showConn(want) || showSegs(l) != segs || e != api.OK {
			t.Errorf("%d: %s, %s, %v", state, showConn(x), showSegs(l), e)
		}
	}
}

func TestTick(t *testing.T) {
	due := api.Timer{On: true, Left: 1, Wait: 6, Tries: 1}
	back := api.Timer{On: true, Left: 12, Wait: 12, Tries: 2}
	soon := func(c *api.Conn) { c.Timer = due }
	later := func(c *api.Conn) { c.Timer = back }
	tired := func(c *api.Conn) { c.Timer = api.Timer{On: true, Left: 1, Wait: 48, Tries: 8} }
	long := strings.Repeat("0123456789", 60)
	shut := with(conn(api.Established, "abc", 0), func(c *api.Conn) { c.Window, c.Timer = 0, due })
	for i, c := range []struct {
		c    api.Conn
		want api.Conn
		segs string
	}{
		{conn(api.Established, "", 0), conn(api.Established, "", 0), ""},
		{conn(api.SynReceived, "", 0), with(conn(api.SynReceived, "", 0), func(c *api.Conn) { c.Timer.Left = 2 }), ""},
		{with(conn(api.SynReceived, "", 0), soon), with(conn(api.SynReceived, "", 0), later), seg(synAck, 100, 500, "")},
		{with(conn(api.SynReceived, "abc", 0), soon), with(conn(api.SynReceived, "abc", 0), later), seg(synAck, 100, 500, "")},
		{with(conn(api.Established, "abc", 2), soon), with(conn(api.Established, "abc", 2), later), seg(push, 100, 500, "ab")},
		{with(conn(api.CloseWait, long, 600), soon), with(conn(api.CloseWait, long, 600), later), seg(push, 100, 500, long[:536])},
		{with(conn(api.FinWait1, "abc", 0), soon), with(conn(api.FinWait1, "abc", 0), later), seg(push, 100, 500, "abc")},
		{with(conn(api.FinWait1, "", 0), soon), with(conn(api.FinWait1, "", 0), later), seg(fin, 100, 500, "")},
		{with(conn(api.LastAck, "", 0), soon), with(conn(api.LastAck, "", 0), later), seg(fin, 100, 500, "")},
		{with(conn(api.Closings, "", 0), soon), with(conn(api.Closings, "", 0), later), seg(fin, 100, 500, "")},
		{shut, with(shut, func(c *api.Conn) { c.Next, c.Timer = 101, back }), seg(push, 100, 500, "a")},
		{with(conn(api.Established, "a", 0), soon), with(conn(api.Established, "a", 1), later), seg(push, 100, 500, "a")},
		{with(conn(api.Established, "a", 1), soon), with(conn(api.Established, "a", 1), later), seg(push, 100, 500, "a")},
		{with(conn(api.LastAck, "a", 0), soon), with(conn(api.LastAck, "a", 0), later), seg(push, 100, 500, "a")},
		{with(conn(api.Established, "", 0), soon), conn(api.Established, "", 0), ""},
		{with(conn(api.FinWait2, "", 0), soon), conn(api.FinWait2, "", 0), ""},
		{with(conn(api.TimeWait, "", 0), soon), with(conn(api.TimeWait, "", 0), func(c *api.Conn) { c.State, c.Timer = api.Closed, api.Timer{} }), ""},
		{with(conn(api.TimeWait, "", 0), tired), with(conn(api.TimeWait, "", 0), func(c *api.Conn) { c.State, c.Timer = api.Closed, api.Timer{} }), ""},
		{with(conn(api.Established, "abc", 2), tired), with(conn(api.Established, "", 2), func(c *api.Conn) { c.State = api.Closed }), seg(rstAck, 102, 500, "")},
		{with(conn(api.SynReceived, "", 0), tired), with(conn(api.SynReceived, "", 0), func(c *api.Conn) { c.State, c.Timer = api.Closed, api.Timer{} }), seg(rstAck, 101, 500, "")},
		{conn(api.Closed, "", 0), conn(api.Closed, "", 0), ""},
	} {
		if x, l, e := tcp.Tick(c.c); showConn(x) != showConn(c.want) || showSegs(l) != c.segs || e != api.OK {
			t.Errorf("%d: %s, %s, %v", i, showConn(x), showSegs(l), e)
		}
	}
}

// TestAlone: without answers a connection tries less and less often, and ends.
func TestAlone(t *testing.T) {
	c, _, _ := tcp.Open(1, 7, 100, from(api.Syn, 500, 0, ""))
	var at []int
	for n := 1; c.State != api.Closed; n++ {
		x, l, e := tcp.Tick(c)
		if e != api.OK || n > 1000 {
			t.Fatal(n, e)
		}
		if len(l) > 0 {
			at = append(at, n)
		}
		c = x
	}
	if fmt.Sprint(at) != "[3 9 21 45 93 141 189 237 285]" {
		t.Error(at)
	}
}

// TestNothingIsShared: what is answered has memory of its own.
func TestNothingIsShared(t *testing.T) {
	c := with(conn(api.Established, "abcdef", 0), func(c *api.Conn) { c.In.Parts = []api.Part{{Seq: 503, Data: []byte("z")}} })
	was := showConn(c)
	s := from(ack, 501, 100, "x")
	x, l, _, _ := tcp.Take(c, s)
	now := showConn(x)
	for _, y := range l {
		for i := range y.Data {
			y.Data[i] = '!'
		}
		_ = append(y.Data, "!!!!"...)
	}
	if showConn(x) != now || showConn(c) != was || string(s.Data) != "x" {
		t.Error("segments share memory")
	}
	clear(x.Out)
	for _, p := range x.In.Parts {
		clear(p.Data)
	}
	if showConn(c) != was {
		t.Error("an argument was changed")
	}
	for _, f := range []func(api.Conn) (api.Conn, []api.Seg, api.Errno){func(c api.Conn) (api.Conn, []api.Seg, api.Errno) { return tcp.Send(c, []byte("g")) }, tcp.Close, tcp.Abort, tcp.Tick} {
		y, l, _ := f(c)
		clear(y.Out)
		for _, z := range y.In.Parts {
			clear(z.Data)
		}
		for _, z := range l {
			clear(z.Data)
		}
		if showConn(c) != was {
			t.Error("an argument was changed")
		}
	}
}

// TestAnySegments: whatever comes, a valid connection stays valid.
func TestAnySegments(t *testing.T) {
	r := rand.New(rand.NewSource(1))
	for range 2000 {
		c, _, _ := tcp.Open(1, 7, r.Intn(1<<32), from(api.Syn, r.Intn(1<<32), 0, ""))
		for range 60 {
			var e api.Errno
			x := c
			switch r.Intn(12) {
			case 0:
				x, _, e = tcp.Send(c, make([]byte, r.Intn(2000)))
			case 1:
				if r.Intn(4) == 0 {
					x, _, e = tcp.Close(c)
				}
			case 2, 3, 4:
				x, _, e = tcp.Tick(c)
			default:
				s := from([]int{ack, ack, push, fin, r.Intn(64)}[r.Intn(5)], span.Add(c.In.Next, []int{0, 0, r.Intn(5000) - 2500}[r.Intn(3)]), span.Add(c.Una, []int{c.Next - c.Una, r.Intn(3000) - 100}[r.Intn(2)]), "")
				s.Data, s.Window = make([]byte, r.Intn(600)), []int{0, 100, 5000}[r.Intn(3)]
				x, _, _, e = tcp.Take(c, s)
			}
			if e == api.ErrForm || e == api.OK && tcp.Check(x) != api.OK {
				t.Fatalf("%v: %v to %v", e, showConn(c), showConn(x))
			}
			if e == api.OK {
				c = x
			}
		}
	}
}

// TestStreams: over a wire that loses, repeats and mixes, both streams arrive, each byte once.
func TestStreams(t *testing.T) {
	r := rand.New(rand.NewSource(2))
	for range 60 {
		mine, theirs := make([]byte, r.Intn(9000)), make([]byte, r.Intn(6000))
		r.Read(mine)
		r.Read(theirs)
		iss, peer := r.Intn(1<<32), span.Add(-3000, r.Intn(6000))
		c, _, _ := tcp.Open(1, 7, iss, from(api.Syn, peer, 0, ""))
		peer = span.Add(peer, 1)
		var heard, got, left []byte
		left = mine
		next := span.Add(iss, 1) // what the peer expects
		var toPeer []api.Seg
		for step := 0; len(got) < len(mine) || len(heard) < len(theirs); step++ {
			if step > 30000 {
				t.Fatal("it takes too long", len(got), len(mine), len(heard), len(theirs), c.State, c.Una, c.Next, next, len(c.Out), len(left), c.Timer, c.Window)
			}
			// The peer sends some piece that it isn't sure of, or only an acknowledgement.
			at := max(0, min(len(theirs), len(heard)-200+r.Intn(900)))
			if r.Intn(3) == 0 {
				at = len(heard)
			}
			data := theirs[at:min(len(theirs), at+r.Intn(500))]
			s := from(ack, span.Add(peer, at), next, string(data))
			s.Window = []int{0, 50, 3000}[r.Intn(3)]
			x, l, told, e := tcp.Take(c, s)
			if e != api.OK {
				t.Fatal(e)
			}
			c, heard, toPeer = x, append(heard, told...), append(toPeer, l...)
			if n := min(len(left), r.Intn(3000)); c.State == api.Established && n > 0 {
				if x, l, e := tcp.Send(c, left[:n]); e == api.OK {
					c, left, toPeer = x, left[n:], append(toPeer, l...)
				} else if e != api.ErrFull {
					t.Fatal(e)
				}
			}
			x, l, _ = tcp.Tick(c)
			c, toPeer = x, append(toPeer, l...)
			if len(c.Out) != len(mine)-len(left)-span.Diff(c.Una, span.Add(iss, 1)) && c.State == api.Established {
				t.Fatal("Out isn't what was not acknowledged")
			}
			for len(toPeer) > 0 {
				k := r.Intn(len(toPeer))
				if y := toPeer[k]; r.Intn(5) > 0 && span.Diff(y.Seq, next) <= 0 && span.Diff(span.Add(y.Seq, len(y.Data)), next) > 0 {
					got = append(got, y.Data[span.Diff(next, y.Seq):]...)
					next = span.Add(y.Seq, len(y.Data))
				}
				toPeer = slices.Delete(toPeer, k, k+1)
			}
		}
		if !bytes.Equal(got, mine) || !bytes.Equal(heard, theirs) {
			t.Fatal("another stream")
		}
	}
}
