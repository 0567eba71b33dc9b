package icmp_test

import (
	"bytes"
	"math/rand"
	"testing"

	"kiosk/api"
	"kiosk/icmp"
	"kiosk/sum"
)

// message makes a whole message.
func message(kind, code byte, rest ...byte) []byte {
	b := append([]byte{kind, code, 0, 0}, rest...)
	c := sum.Check(b)
	b[2], b[3] = byte(c>>8), byte(c)
	return b
}

func TestReply(t *testing.T) {
	torn := message(8, 0, 1, 2, 3, 4)
	torn[7]++
	for i, c := range []struct {
		b []byte
		e api.Errno
	}{
		{nil, api.ErrCut}, {make([]byte, 7), api.ErrCut}, {message(8, 0, 1, 2, 3), api.ErrCut},
		{make([]byte, 8), api.ErrSum}, {torn, api.ErrSum}, {append([]byte{0}, torn[1:]...), api.ErrSum},
		{message(0, 0, 1, 2, 3, 4), api.ErrNone}, {message(8, 1, 1, 2, 3, 4), api.ErrNone}, {message(13, 0, 1, 2, 3, 4, 5), api.ErrNone},
	} {
		if r, e := icmp.Reply(c.b); r != nil || e != c.e {
			t.Errorf("%d: %x, %v", i, r, e)
		}
	}
	r, e := icmp.Reply([]byte{8, 0, 0xf7, 0xff, 0, 0, 0, 0})
	if !bytes.Equal(r, []byte{0, 0, 0xff, 0xff, 0, 0, 0, 0}) || e != api.OK {
		t.Errorf("%x, %v", r, e)
	}
}

func TestConsequences(t *testing.T) {
	r := rand.New(rand.NewSource(1))
	for range 300 {
		data := make([]byte, 4+r.Intn(80))
		r.Read(data)
		b := message(8, 0, data...)
		was := bytes.Clone(b)
		a, e := icmp.Reply(b)
		if e != api.OK || len(a) != len(b) || a[0] != 0 || a[1] != 0 || !bytes.Equal(a[4:], data) || sum.Check(a) != 0 {
			t.Fatalf("%x: %x, %v", b, a, e)
		}
		if x, e := icmp.Reply(a); x != nil || e != api.ErrNone {
			t.Fatalf("a reply to a reply: %x, %v", x, e)
		}
		a[4]++
		if !bytes.Equal(b, was) {
			t.Fatal("something is shared")
		}
	}
}
