package seg_test

import (
	"bytes"
	"fmt"
	"math/rand"
	"slices"
	"testing"

	"kiosk/api"
	"kiosk/seg"
	"kiosk/sum"
)

const src, dst = 0x0a000002, 0x0a000001

var whole = api.Seg{SrcPort: 0x1234, DstPort: 1883, Seq: 0x01020304, Ack: 0xfffefdfc, Flags: api.Syn | api.AckFlag, Window: 0x4321, Data: []byte("data")}

func same(a, b api.Seg) bool {
	x, y := a.Data, b.Data
	a.Data, b.Data = nil, nil
	return bytes.Equal(x, y) && fmt.Sprint(a) == fmt.Sprint(b)
}

// mended puts the right checksum into a segment.
func mended(b []byte) []byte {
	b[16], b[17] = 0, 0
	n := len(b)
	c := sum.Check(append([]byte{10, 0, 0, 2, 10, 0, 0, 1, 0, 6, byte(n >> 8), byte(n)}, b...))
	b[16], b[17] = byte(c>>8), byte(c)
	return b
}

func TestBytes(t *testing.T) {
	s := whole
	s.Data = nil
	b, e := seg.Bytes(src, dst, s)
	if x := fmt.Sprintf("%x", b[:16]); x != "1234075b01020304fffefdfc50124321" || e != api.OK || len(b) != 20 || b[18] != 0 || b[19] != 0 {
		t.Error(x, e)
	}
	b, e = seg.Bytes(src, dst, whole)
	if !bytes.Equal(b, mended(bytes.Clone(b))) || e != api.OK || string(b[20:]) != "data" {
		t.Errorf("%x, %v", b, e)
	}
	for i, c := range []struct {
		s api.Seg
		e api.Errno
	}{
		{api.Seg{}, api.OK},
		{api.Seg{SrcPort: 65535, DstPort: 65535, Seq: 1<<32 - 1, Ack: 1<<32 - 1, Flags: 63, Window: 65535, Data: make([]byte, api.MaxFrame-54)}, api.OK},
		{api.Seg{Data: make([]byte, api.MaxFrame-53)}, api.ErrForm},
		{api.Seg{SrcPort: -1}, api.ErrForm}, {api.Seg{SrcPort: 65536}, api.ErrForm}, {api.Seg{DstPort: -1}, api.ErrForm}, {api.Seg{DstPort: 65536}, api.ErrForm},
		{api.Seg{Seq: -1}, api.ErrForm}, {api.Seg{Seq: 1 << 32}, api.ErrForm}, {api.Seg{Ack: -1}, api.ErrForm}, {api.Seg{Ack: 1 << 32}, api.ErrForm},
		{api.Seg{Flags: -1}, api.ErrForm}, {api.Seg{Flags: 64}, api.ErrForm}, {api.Seg{Window: -1}, api.ErrForm}, {api.Seg{Window: 65536}, api.ErrForm},
	} {
		b, e := seg.Bytes(src, dst, c.s)
		if e != c.e || (b == nil) != (e != api.OK) {
			t.Errorf("%d: %x, %v", i, b, e)
		}
		if s, f := seg.Parse(src, dst, b); e == api.OK && (!same(s, c.s) || f != api.OK) {
			t.Errorf("%d: %v, %v", i, s, f)
		}
	}
	good, _ := seg.Bytes(src, dst, whole)
	for _, c := range [][2]int{{-1, 0}, {1 << 32, 0}, {0, -1}, {0, 1 << 32}} {
		if b, e := seg.Bytes(c[0], c[1], whole); b != nil || e != api.ErrForm {
			t.Errorf("%v: %v", c, e)
		}
		for _, b := range [][]byte{good, nil} {
			if s, e := seg.Parse(c[0], c[1], b); !same(s, api.Seg{}) || e != api.ErrForm {
				t.Errorf("%v: %v", c, e)
			}
		}
	}
}

func TestParse(t *testing.T) {
	good, _ := seg.Bytes(src, dst, whole)
	with := func(mend bool, at int, l ...byte) []byte {
		b := bytes.Clone(good)
		copy(b[at:], l)
		if mend {
			mended(b)
		}
		return b
	}
	big := func(n int) []byte { return mended(append(bytes.Clone(good), make([]byte, n-len(good))...)) }
	for i, c := range []struct {
		b []byte
		e api.Errno
		n int // where Data begin
	}{
		{nil, api.ErrCut, 0}, {good[:19], api.ErrCut, 0}, {make([]byte, 19), api.ErrCut, 0},
		{with(true, 12, 0x4f), api.ErrForm, 0}, {with(false, 12, 0), api.ErrForm, 0},
		{with(true, 12, 0x70), api.ErrCut, 0}, {with(false, 12, 0xf0), api.ErrCut, 0},
		{with(true, 12, 0x60), api.OK, 24}, {with(true, 12, 0x5f), api.OK, 20},
		{big(api.MaxFrame - 34), api.OK, 20}, {big(api.MaxFrame - 33), api.ErrLimit, 0}, {append(bytes.Clone(good), make([]byte, 3000)...), api.ErrLimit, 0},
		{with(false, 20, 'x'), api.ErrSum, 0}, {with(false, 16, 0, 0), api.ErrSum, 0}, {append(bytes.Clone(good), 0), api.ErrSum, 0}, {good[:22], api.ErrSum, 0},
		{with(true, 18, 1, 2), api.OK, 20},
	} {
		s, e := seg.Parse(src, dst, c.b)
		if e != c.e || e != api.OK && !same(s, api.Seg{}) {
			t.Errorf("%d: %v, %v", i, s, e)
		}
		if want := whole; e == api.OK {
			want.Data = c.b[c.n:]
			if !same(s, want) {
				t.Errorf("%d: %v", i, s)
			}
		}
	}
	if s, e := seg.Parse(src, dst, with(true, 13, 0xd2)); s.Flags != 0x12 || e != api.OK {
		t.Error(s, e)
	}
	if _, e := seg.Parse(src, dst+1, good); e != api.ErrSum {
		t.Error("for another address:", e)
	}
	if s, e := seg.Parse(dst, src, good); !same(s, whole) || e != api.OK {
		t.Error("a sum knows no order:", e)
	}
}

func TestOneBit(t *testing.T) {
	good, _ := seg.Bytes(src, dst, whole)
	for i := range len(good) * 8 {
		b := bytes.Clone(good)
		b[i/8] ^= 1 << (i % 8)
		if s, e := seg.Parse(src, dst, b); e == api.OK {
			t.Errorf("bit %d: %v", i, s)
		}
	}
}

func TestInverse(t *testing.T) {
	r := rand.New(rand.NewSource(1))
	for range 300 {
		s := api.Seg{SrcPort: r.Intn(65536), DstPort: r.Intn(65536), Seq: r.Intn(1 << 32), Ack: r.Intn(1 << 32), Flags: r.Intn(64), Window: r.Intn(65536), Data: make([]byte, r.Intn(50))}
		r.Read(s.Data)
		was := slices.Clone(s.Data)
		a, b := r.Intn(1<<32), r.Intn(1<<32)
		x, e := seg.Bytes(a, b, s)
		got, f := seg.Parse(a, b, x)
		if e != api.OK || f != api.OK || !same(got, s) {
			t.Fatalf("%v, not %v", got, s)
		}
		y := bytes.Clone(x)
		for i := range got.Data {
			got.Data[i]++
		}
		if !bytes.Equal(x, y) || !bytes.Equal(s.Data, was) {
			t.Fatal("something is shared")
		}
	}
}
