package nic_test

import (
	"bytes"
	"math/rand"
	"testing"

	"kiosk/api"
	"kiosk/nic"
)

func frame(n int, fill byte) []byte { return bytes.Repeat([]byte{fill}, n) }

func TestReceive(t *testing.T) {
	n := nic.New()
	if b, ok := n.Poll(); b != nil || ok {
		t.Error("a new card has a frame")
	}
	for _, size := range []int{0, 13, api.MaxFrame + 1, 5000} {
		if n.Receive(frame(size, 1)) {
			t.Errorf("%d bytes", size)
		}
	}
	if n.Receive(nil) || n.Dropped() != 5 {
		t.Errorf("%d were dropped", n.Dropped())
	}
	for k := range api.MaxRx {
		if !n.Receive(frame([]int{14, api.MaxFrame, 99}[k%3], byte(k))) {
			t.Fatalf("frame %d", k)
		}
	}
	if n.Receive(frame(14, 0)) || n.Dropped() != 6 {
		t.Errorf("%d were dropped", n.Dropped())
	}
	for k := range api.MaxRx {
		if b, ok := n.Poll(); !ok || !bytes.Equal(b, frame([]int{14, api.MaxFrame, 99}[k%3], byte(k))) {
			t.Fatalf("frame %d: %x", k, b)
		}
	}
	if _, ok := n.Poll(); ok || n.Dropped() != 6 {
		t.Error("a frame too many")
	}
}

func TestSend(t *testing.T) {
	n := nic.New()
	if b, ok := n.Out(); b != nil || ok {
		t.Error("a new card has a frame")
	}
	for k := range api.MaxTx {
		if e := n.Send(frame([]int{14, api.MaxFrame, 99}[k%3], byte(k))); e != api.OK {
			t.Fatalf("frame %d: %v", k, e)
		}
	}
	if e := n.Send(frame(14, 0)); e != api.ErrFull {
		t.Error(e)
	}
	for _, size := range []int{0, 13, api.MaxFrame + 1} {
		if e := n.Send(frame(size, 1)); e != api.ErrForm {
			t.Errorf("%d bytes: %v", size, e)
		}
	}
	for k := range api.MaxTx {
		if b, ok := n.Out(); !ok || !bytes.Equal(b, frame([]int{14, api.MaxFrame, 99}[k%3], byte(k))) {
			t.Fatalf("frame %d: %x", k, b)
		}
	}
	if _, ok := n.Out(); ok || n.Dropped() != 0 {
		t.Error("a frame too many, or one dropped")
	}
}

// TestOrder: frames come out in order and unchanged, both ways at once, however long it goes.
func TestOrder(t *testing.T) {
	r := rand.New(rand.NewSource(1))
	n, other := nic.New(), nic.New()
	var in, out [][]byte
	dropped := 0
	for range 100000 {
		b := make([]byte, 14+r.Intn(30))
		r.Read(b)
		switch r.Intn(4) {
		case 0:
			ok := n.Receive(b)
			if ok != (len(in) < api.MaxRx) {
				t.Fatal(ok, len(in))
			}
			if ok {
				in = append(in, bytes.Clone(b))
			} else {
				dropped++
			}
			b[0]++
		case 1:
			got, ok := n.Poll()
			if ok != (len(in) > 0) || ok && !bytes.Equal(got, in[0]) {
				t.Fatal(got, ok)
			}
			if ok {
				in = in[1:]
				got[0]++
			}
		case 2:
			e := n.Send(b)
			if (e == api.OK) != (len(out) < api.MaxTx) {
				t.Fatal(e, len(out))
			}
			if e == api.OK {
				out = append(out, bytes.Clone(b))
			}
			b[0]++
		case 3:
			got, ok := n.Out()
			if ok != (len(out) > 0) || ok && !bytes.Equal(got, out[0]) {
				t.Fatal(got, ok)
			}
			if ok {
				out = out[1:]
				got[0]++
			}
		}
		if n.Dropped() != dropped {
			t.Fatal(n.Dropped(), dropped)
		}
	}
	if _, ok := other.Poll(); ok || other.Dropped() != 0 {
		t.Error("cards share something")
	}
}

// TestUnmade: a card that nobody made takes nothing and has nothing.
func TestUnmade(t *testing.T) {
	var n nic.Nic
	_, polled := n.Poll()
	_, out := n.Out()
	if n.Receive(frame(14, 1)) || n.Send(frame(14, 1)) != api.ErrFull || polled || out || n.Dropped() != 1 {
		t.Error(polled, out, n.Dropped())
	}
}
