// Package peel: the layers of a frame that carries a segment of TCP.
package peel

import (
	"kiosk/api"
	"kiosk/ether"
	"kiosk/ip"
	"kiosk/seg"
)

const (
	typeIPv4 = 0x0800
	protoTCP = 6
)

// Segment takes a frame apart, if all of its layers are whole.
func Segment(b []byte) (f api.Frame, p api.Packet, s api.Seg, ok bool) {
	f, e := ether.Parse(b)
	if e != api.OK || f.Type != typeIPv4 {
		return api.Frame{}, api.Packet{}, api.Seg{}, false
	}
	p, e = ip.Parse(f.Data)
	if e != api.OK || p.Proto != protoTCP {
		return api.Frame{}, api.Packet{}, api.Seg{}, false
	}
	s, e = seg.Parse(p.Src, p.Dst, p.Data)
	if e != api.OK {
		return api.Frame{}, api.Packet{}, api.Seg{}, false
	}
	return f, p, s, true
}
