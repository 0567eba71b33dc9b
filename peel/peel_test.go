package peel_test

import (
	"bytes"
	"testing"

	"kiosk/api"
	"kiosk/ether"
	"kiosk/ip"
	"kiosk/peel"
	"kiosk/seg"
)

func frame(kind, proto int) []byte {
	b, _ := seg.Bytes(7, 8, api.Seg{SrcPort: 5, DstPort: 6, Data: []byte("data")})
	b, _ = ip.Bytes(api.Packet{Src: 7, Dst: 8, Proto: proto, Data: b})
	b, _ = ether.Bytes(api.Frame{Dst: 1, Src: 2, Type: kind, Data: b})
	return b
}

func TestSegment(t *testing.T) {
	f, p, s, ok := peel.Segment(frame(0x0800, 6))
	if !ok || f.Dst != 1 || f.Src != 2 || p.Src != 7 || p.Dst != 8 || s.SrcPort != 5 || s.DstPort != 6 || string(s.Data) != "data" {
		t.Error(f, p, s, ok)
	}
	whole := frame(0x0800, 6)
	torn := bytes.Clone(whole)
	torn[50]++
	badHead := bytes.Clone(whole)
	badHead[14+8]++
	for i, b := range [][]byte{nil, whole[:13], whole[:40], torn, badHead, frame(0x0806, 6), frame(0x0800, 17)} {
		if f, p, s, ok := peel.Segment(b); ok || f.Data != nil || p.Data != nil || s.Data != nil || f.Dst != 0 || p.Src != 0 || s.SrcPort != 0 {
			t.Errorf("%d: %v, %v, %v", i, f, p, s)
		}
	}
}
