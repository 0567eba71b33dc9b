package ether_test

import (
	"bytes"
	"fmt"
	"math/rand"
	"testing"

	"kiosk/api"
	"kiosk/ether"
)

func TestBytes(t *testing.T) {
	b, e := ether.Bytes(api.Frame{Dst: 0x010203040506, Src: 0xfffefdfcfbfa, Type: 0x0800, Data: []byte{9}})
	if s := fmt.Sprintf("%x", b); s != "010203040506fffefdfcfbfa080009" || e != api.OK {
		t.Error(s, e)
	}
	for i, c := range []struct {
		f api.Frame
		e api.Errno
	}{
		{api.Frame{}, api.OK},
		{api.Frame{Dst: 1<<48 - 1, Src: 1<<48 - 1, Type: 1<<16 - 1, Data: make([]byte, api.MaxFrame-14)}, api.OK},
		{api.Frame{Dst: -1}, api.ErrForm}, {api.Frame{Dst: 1 << 48}, api.ErrForm},
		{api.Frame{Src: -1}, api.ErrForm}, {api.Frame{Src: 1 << 48}, api.ErrForm},
		{api.Frame{Type: -1}, api.ErrForm}, {api.Frame{Type: 1 << 16}, api.ErrForm},
		{api.Frame{Data: make([]byte, api.MaxFrame-13)}, api.ErrForm},
	} {
		b, e := ether.Bytes(c.f)
		if e != c.e || e != api.OK && b != nil || e == api.OK && len(b) != 14+len(c.f.Data) {
			t.Errorf("%d: %x, %v", i, b, e)
		}
	}
}

func TestParse(t *testing.T) {
	for _, c := range []struct {
		n int
		e api.Errno
	}{{0, api.ErrCut}, {13, api.ErrCut}, {14, api.OK}, {api.MaxFrame, api.OK}, {api.MaxFrame + 1, api.ErrLimit}, {9999, api.ErrLimit}} {
		f, e := ether.Parse(bytes.Repeat([]byte{255}, c.n))
		if e != c.e || e == api.OK && (f.Dst != 1<<48-1 || f.Src != 1<<48-1 || f.Type != 65535 || len(f.Data) != c.n-14) || e != api.OK && (f.Dst != 0 || f.Src != 0 || f.Type != 0 || f.Data != nil) {
			t.Errorf("%d bytes: %v, %v", c.n, f, e)
		}
	}
}

func TestInverse(t *testing.T) {
	r := rand.New(rand.NewSource(1))
	for range 300 {
		b := make([]byte, 14+r.Intn(60))
		r.Read(b)
		f, e := ether.Parse(b)
		if e != api.OK {
			t.Fatal(e)
		}
		c, e := ether.Bytes(f)
		if e != api.OK || !bytes.Equal(c, b) {
			t.Fatalf("%x, not %x", c, b)
		}
		was := bytes.Clone(b)
		for i := range f.Data {
			f.Data[i]++
		}
		if !bytes.Equal(b, was) || !bytes.Equal(c, was) {
			t.Fatal("something is shared")
		}
	}
}
