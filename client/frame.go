package client

import (
	"kiosk/api"
	"kiosk/arp"
	"kiosk/ether"
	"kiosk/ip"
	"kiosk/peel"
	"kiosk/seg"
)

const (
	ips      = 1 << 32
	macs     = 1 << 48
	ports    = 1 << 16
	numbers  = 1 << 32
	typeIPv4 = 0x0800
	typeARP  = 0x0806
	protoTCP = 6
	ttl      = 64
	window   = 65535
)

// question is the frame that asks for the kernel's MAC address.
func (c *Client) question() []byte {
	b, _ := arp.Bytes(api.Arp{SrcMac: c.mac, SrcIP: c.ip, DstIP: api.IP})
	f, _ := ether.Bytes(api.Frame{Dst: api.Mac, Src: c.mac, Type: typeARP, Data: b})
	return f
}

// frame wraps a segment to the kernel.
func (c *Client) frame(s api.Seg) []byte {
	s.SrcPort, s.DstPort, s.Window = c.port, api.Port, window
	b, _ := seg.Bytes(c.ip, api.IP, s)
	b, _ = ip.Bytes(api.Packet{Src: c.ip, Dst: api.IP, Proto: protoTCP, TTL: ttl, Data: b})
	b, _ = ether.Bytes(api.Frame{Dst: api.Mac, Src: c.mac, Type: typeIPv4, Data: b})
	return b
}

// segment finds the segment in a frame that the kernel has sent to this client, if there is one.
func (c *Client) segment(b []byte) (api.Seg, bool) {
	f, p, s, ok := peel.Segment(b)
	ok = ok && f.Dst == c.mac && p.Src == api.IP && p.Dst == c.ip && s.SrcPort == api.Port && s.DstPort == c.port
	return s, ok
}
