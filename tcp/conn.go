package tcp

import (
	"slices"

	"kiosk/api"
	"kiosk/reasm"
	"kiosk/span"
	"kiosk/timer"
	"kiosk/twin"
)

// conn is a connection at work, and what it sends meanwhile.
type conn struct {
	api.Conn
	out []api.Seg
}

// newConn copies c, so that nothing of what was handed in is changed.
func newConn(c api.Conn) *conn {
	return &conn{Conn: twin.Conn(c)}
}

func (c *conn) sent() int { return span.Diff(c.Next, c.Una) }

func (c *conn) start(n int) { c.Timer, _ = timer.Start(n) }

func (c *conn) send(seq, flags int, data []byte) {
	c.out = append(c.out, api.Seg{SrcPort: c.Port, DstPort: c.PeerPort, Seq: seq, Ack: c.In.Next, Flags: flags, Window: api.MaxWindow, Data: slices.Clone(data)})
}

func (c *conn) acknowledge() { c.send(c.Next, api.AckFlag, nil) }

func (c *conn) closeAtOnce() {
	c.State, c.Out, c.In.Parts, c.Timer = api.Closed, nil, nil, api.Timer{}
}

func (c *conn) abort() {
	if c.State != api.Closed {
		c.send(c.Next, api.Rst|api.AckFlag, nil)
	}
	c.closeAtOnce()
}

// pump sends what may be sent, in the states that allow it.
func (c *conn) pump() {
	if !mayPump(c.Conn) {
		return
	}
	for {
		sent := c.sent()
		n := min(api.MaxSeg, len(c.Out)-sent, c.Window-sent)
		if n <= 0 {
			break
		}
		c.send(c.Next, api.AckFlag|api.Psh, c.Out[sent:sent+n])
		c.Next = span.Add(c.Next, n)
	}
	if c.Closing && c.sent() == len(c.Out) {
		c.send(c.Next, api.AckFlag|api.Fin, nil)
		c.Next = span.Add(c.Next, 1)
		if c.State == api.Established {
			c.State = api.FinWait1
		} else {
			c.State = api.LastAck
		}
	}
	if !c.Timer.On && (c.sent() > 0 || c.sent() < len(c.Out)) {
		c.start(api.FirstWait)
	}
}

// expire does what is to be done when the timer has run out.
func (c *conn) expire() {
	if c.State == api.TimeWait {
		c.closeAtOnce()
		return
	}
	t, e := timer.Back(c.Timer)
	if e != api.OK {
		c.abort()
		return
	}
	c.Timer = t
	sent := c.sent()
	switch {
	case c.State == api.SynReceived:
		c.send(c.Una, api.Syn|api.AckFlag, nil)
	case sent > 0 && len(c.Out) > 0:
		c.send(c.Una, api.AckFlag|api.Psh, c.Out[:min(api.MaxSeg, sent, len(c.Out))])
	case sent > 0:
		c.send(c.Una, api.AckFlag|api.Fin, nil)
	case len(c.Out) > 0:
		c.send(c.Next, api.AckFlag|api.Psh, c.Out[:1])
		c.Next = span.Add(c.Next, 1)
	default:
		c.Timer = api.Timer{}
	}
}

// take processes a segment, and returns the bytes of the stream that are complete by it.
func (c *conn) take(s api.Seg) (told []byte) {
	length := len(s.Data) + s.Flags>>1&1 + s.Flags&1 // Syn and Fin have a number each
	if c.State == api.Closed {
		goto end
	}
	if !c.acceptable(s.Seq, length) {
		c.outside(s)
		goto end
	}
	if s.Flags&api.Rst != 0 {
		c.closeAtOnce()
		goto end
	}
	if s.Flags&api.Syn != 0 {
		c.acknowledge()
		goto end
	}
	if s.Flags&api.AckFlag == 0 || !c.acknowledged(s) {
		goto end
	}
	c.Window = s.Window
	if c.hears() {
		c.In, told, _ = reasm.Add(c.In, s.Seq, s.Data)
		c.finish(s)
	}
	if length > 0 {
		c.acknowledge()
	}
	c.pump()
	if !c.Timer.On && c.sent() > 0 && c.State != api.Closed && c.State != api.TimeWait {
		c.start(api.FirstWait)
	}
end:
	return told
}

// acceptable tells whether the first or the last number of a segment lies in the window.
func (c *conn) acceptable(seq, length int) bool {
	window, _ := span.Of(c.In.Next, api.MaxWindow)
	first, _ := span.Has(window, seq)
	last, _ := span.Has(window, span.Add(seq, length-1))
	return first || length > 0 && last
}

// outside answers a segment that isn't acceptable.
func (c *conn) outside(s api.Seg) {
	if s.Flags&api.Rst != 0 {
		return
	}
	c.acknowledge()
	if c.State == api.TimeWait {
		c.start(api.LastWait)
	}
}

// acknowledged processes the acknowledgement, and tells whether to go on.
func (c *conn) acknowledged(s api.Seg) bool {
	if c.State == api.SynReceived {
		if s.Ack != c.Next {
			c.out = append(c.out, api.Seg{SrcPort: c.Port, DstPort: c.PeerPort, Seq: s.Ack, Flags: api.Rst})
			return false
		}
		c.Una, c.State, c.Timer = c.Next, api.Established, api.Timer{}
		return true
	}
	if span.Diff(s.Ack, c.Next) > 0 {
		c.acknowledge()
		return false
	}
	if d := span.Diff(s.Ack, c.Una); d > 0 {
		c.Out = slices.Clone(c.Out[min(d, len(c.Out)):])
		c.Una, c.Timer = s.Ack, api.Timer{}
	}
	if c.sent() == 0 {
		c.finAcknowledged()
	}
	return true
}

// finAcknowledged goes on to the state behind that in which the FIN was sent.
func (c *conn) finAcknowledged() {
	switch c.State {
	case api.FinWait1:
		c.State = api.FinWait2
	case api.Closings:
		c.State = api.TimeWait
		c.start(api.LastWait)
	case api.LastAck:
		c.closeAtOnce()
	}
}

// hears tells whether the peer may still say something.
func (c *conn) hears() bool {
	return c.State == api.Established || c.State == api.FinWait1 || c.State == api.FinWait2
}

// finish processes the FIN, if there is one and all that is before it has come.
func (c *conn) finish(s api.Seg) {
	if s.Flags&api.Fin == 0 || span.Add(s.Seq, len(s.Data)) != c.In.Next || len(c.In.Parts) > 0 {
		return
	}
	c.In.Next = span.Add(c.In.Next, 1)
	switch c.State {
	case api.Established:
		c.State = api.CloseWait
	case api.FinWait1:
		c.State = api.Closings
	case api.FinWait2:
		c.State = api.TimeWait
		c.start(api.LastWait)
	}
}
