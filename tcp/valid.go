package tcp

import (
	"kiosk/api"
	"kiosk/reasm"
	"kiosk/span"
	"kiosk/timer"
)

const (
	maxLink  = 1 << 40
	maxData  = api.MaxFrame - 54
	allFlags = 63
)

func isPort(v int) bool   { return v >= 0 && v < 1<<16 }
func isNumber(v int) bool { return v >= 0 && v < 1<<32 }

func validSeg(s api.Seg) bool {
	return isPort(s.SrcPort) && isPort(s.DstPort) && isNumber(s.Seq) && isNumber(s.Ack) &&
		s.Flags >= 0 && s.Flags <= allFlags && isPort(s.Window) && len(s.Data) <= maxData
}

// validNumbers holds each field against its limits.
func validNumbers(c api.Conn) (ok bool) {
	if c.Link < 0 || c.Link > maxLink || !isNumber(c.PeerIP) || !isPort(c.PeerPort) || !isPort(c.Port) {
		goto end
	}
	if c.State < api.Closed || c.State > api.TimeWait || !isNumber(c.Una) || !isNumber(c.Next) || !isPort(c.Window) {
		goto end
	}
	if len(c.Out) > api.MaxOut || reasm.Check(c.In) != api.OK || timer.Check(c.Timer) != api.OK {
		goto end
	}
	ok = true
end:
	return ok
}

// validState holds the fields against the state.
func validState(c api.Conn) bool {
	sent := span.Diff(c.Next, c.Una)
	switch c.State {
	case api.Closed:
		return len(c.Out) == 0 && len(c.In.Parts) == 0 && c.Timer == api.Timer{}
	case api.SynReceived:
		return sent == 1
	case api.Established, api.CloseWait:
		return sent >= 0 && sent <= len(c.Out)
	case api.FinWait1, api.Closings, api.LastAck:
		return c.Closing && sent == len(c.Out)+1
	}
	return c.Closing && sent == 0 && len(c.Out) == 0
}

func mayPump(c api.Conn) bool {
	return c.State == api.Established || c.State == api.CloseWait
}
