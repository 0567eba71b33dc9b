package ip_test

import (
	"bytes"
	"fmt"
	"math/rand"
	"slices"
	"testing"

	"kiosk/api"
	"kiosk/ip"
	"kiosk/sum"
)

func same(a, b api.Packet) bool {
	return a.Src == b.Src && a.Dst == b.Dst && a.Proto == b.Proto && a.TTL == b.TTL && a.ID == b.ID && bytes.Equal(a.Data, b.Data)
}

var packet = api.Packet{Src: 0xc0a80001, Dst: 0xc0a800c7, Proto: 17, TTL: 64, ID: 0x1234, Data: []byte("data")}

// mended puts the right checksum into a header.
func mended(b []byte) []byte {
	n := int(b[0]&15) * 4
	b[10], b[11] = 0, 0
	c := sum.Check(b[:n])
	b[10], b[11] = byte(c>>8), byte(c)
	return b
}

func TestBytes(t *testing.T) {
	b, e := ip.Bytes(api.Packet{Src: 0xc0a80001, Dst: 0xc0a800c7, Proto: 17, TTL: 64, Data: make([]byte, 95)})
	if s := fmt.Sprintf("%x", b[:20]); s != "4500"+"0073"+"0000"+"4000"+"4011"+"b861"+"c0a80001"+"c0a800c7" || e != api.OK || len(b) != 115 {
		t.Error(s, e)
	}
	for i, c := range []struct {
		p api.Packet
		e api.Errno
	}{
		{api.Packet{}, api.OK},
		{api.Packet{Src: 1<<32 - 1, Dst: 1<<32 - 1, Proto: 255, TTL: 255, ID: 65535, Data: make([]byte, api.MaxFrame-34)}, api.OK},
		{api.Packet{Data: make([]byte, api.MaxFrame-33)}, api.ErrForm},
		{api.Packet{Src: -1}, api.ErrForm}, {api.Packet{Src: 1 << 32}, api.ErrForm}, {api.Packet{Dst: -1}, api.ErrForm}, {api.Packet{Dst: 1 << 32}, api.ErrForm},
		{api.Packet{Proto: -1}, api.ErrForm}, {api.Packet{Proto: 256}, api.ErrForm}, {api.Packet{TTL: -1}, api.ErrForm}, {api.Packet{TTL: 256}, api.ErrForm},
		{api.Packet{ID: -1}, api.ErrForm}, {api.Packet{ID: 65536}, api.ErrForm},
	} {
		b, e := ip.Bytes(c.p)
		if e != c.e || (b == nil) != (e != api.OK) || e == api.OK && sum.Check(b[:20]) != 0 {
			t.Errorf("%d: %x, %v", i, b, e)
		}
		if p, e := ip.Parse(b); e == api.OK && !same(p, c.p) {
			t.Errorf("%d: %v", i, p)
		}
	}
}

func TestParse(t *testing.T) {
	good, _ := ip.Bytes(packet)
	with := func(mend bool, at int, l ...byte) []byte {
		b := bytes.Clone(good)
		copy(b[at:], l)
		if mend {
			mended(b)
		}
		return b
	}
	long := mended(slices.Concat([]byte{0x47, 0, 0, 32}, good[4:20], []byte("12345678data")))
	for i, c := range []struct {
		b []byte
		e api.Errno
	}{
		{nil, api.ErrCut}, {good[:19], api.ErrCut}, {append([]byte{0}, good[1:19]...), api.ErrCut},
		{with(true, 0, 0x55), api.ErrForm}, {with(false, 0, 0x65), api.ErrForm}, {with(false, 0, 0x44), api.ErrForm}, {with(false, 0, 0x40), api.ErrForm},
		{with(false, 0, 0x4f), api.ErrCut}, {with(false, 0, 0x4f, 0, 0, 1), api.ErrCut},
		{with(true, 2, 0, 19), api.ErrForm}, {with(false, 2, 0, 0), api.ErrForm},
		{with(true, 2, 0, 25), api.ErrCut}, {with(false, 2, 255, 255), api.ErrCut},
		{with(false, 8, 63), api.ErrSum}, {with(false, 10, 0, 0), api.ErrSum}, {with(false, 6, 0x60), api.ErrSum},
		{with(true, 6, 0x60), api.ErrFrag}, {with(true, 6, 0x20), api.ErrFrag}, {with(true, 6, 0, 1), api.ErrFrag}, {with(true, 6, 0x10, 0), api.ErrFrag},
		{with(true, 6, 0, 0), api.OK}, {with(true, 6, 0xc0), api.OK}, {with(true, 6, 0x80), api.OK},
		{with(true, 1, 0xfc), api.OK}, {with(true, 2, 0, 20), api.OK}, {with(true, 2, 0, 22), api.OK},
		{append(bytes.Clone(good), "padding"...), api.OK},
		{long, api.OK}, {long[:27], api.ErrCut}, {long[:31], api.ErrCut},
		{append(bytes.Clone(good), make([]byte, 5000)...), api.OK},
	} {
		p, e := ip.Parse(c.b)
		if e != c.e || e != api.OK && !same(p, api.Packet{}) {
			t.Errorf("%d: %x: %v, %v", i, c.b, p, e)
		}
		if want := packet; e == api.OK {
			n := int(c.b[3])
			want.Data = c.b[int(c.b[0]&15)*4 : n]
			if !same(p, want) {
				t.Errorf("%d: %v", i, p)
			}
		}
	}
}

func TestOneBit(t *testing.T) {
	good, _ := ip.Bytes(packet)
	for i := range 20 * 8 {
		b := bytes.Clone(good)
		b[i/8] ^= 1 << (i % 8)
		if p, e := ip.Parse(b); e == api.OK {
			t.Errorf("bit %d: %v", i, p)
		}
	}
}

func TestInverse(t *testing.T) {
	r := rand.New(rand.NewSource(1))
	for range 300 {
		p := api.Packet{Src: r.Intn(1 << 32), Dst: r.Intn(1 << 32), Proto: r.Intn(256), TTL: r.Intn(256), ID: r.Intn(65536), Data: make([]byte, r.Intn(50))}
		r.Read(p.Data)
		b, e := ip.Bytes(p)
		q, f := ip.Parse(b)
		if e != api.OK || f != api.OK || !same(p, q) {
			t.Fatalf("%v, not %v", q, p)
		}
		was := bytes.Clone(b)
		for i := range q.Data {
			q.Data[i]++
		}
		if !bytes.Equal(b, was) {
			t.Fatal("something is shared")
		}
	}
}
