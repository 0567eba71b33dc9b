package record_test

import (
	"bytes"
	"fmt"
	"hash/crc32"
	"math/rand"
	"slices"
	"strings"
	"testing"

	"kiosk/api"
	"kiosk/broker"
	"kiosk/record"
	"kiosk/same"
)

func text(r *rand.Rand, n int) string {
	b := make([]byte, n)
	for i := range b {
		b[i] = "abc/"[r.Intn(4)]
	}
	return string(b)
}

func message(r *rand.Rand, least int) api.Message {
	return api.Message{Topic: text(r, 1+r.Intn(64)), Payload: text(r, least+r.Intn(128)), QoS: 1 + r.Intn(2), Retain: r.Intn(2) > 0}
}

// random makes a durable broker; a full one has all that it may have.
func random(r *rand.Rand, full bool) api.Broker {
	count := func(n int) int {
		if full {
			return n
		}
		return r.Intn(n + 1)
	}
	var b api.Broker
	for k := range count(api.MaxSessions) {
		s := api.Session{Client: fmt.Sprint(k, text(r, r.Intn(45)))}
		for k := range count(api.MaxSubs) {
			s.Subs = append(s.Subs, api.Wish{Filter: fmt.Sprintf("%02d%s", k, text(r, r.Intn(62))), QoS: r.Intn(3)})
		}
		s.Out.Last = r.Intn(65536)
		for k := range count(api.MaxWindowQ) {
			f := api.Flight{ID: 65535 - k*r.Intn(999) - k, Message: message(r, 0)}
			f.Rec = f.Message.QoS == 2 && r.Intn(2) > 0
			s.Out.Flight = append(s.Out.Flight, f)
		}
		for range count(api.MaxQueue) {
			s.Out.Queue = append(s.Out.Queue, message(r, 0))
		}
		for k := range count(api.MaxIn) {
			s.In = append(s.In, 1+k*4000+r.Intn(4000))
		}
		b.Sessions = append(b.Sessions, s)
	}
	for k := range count(api.MaxKept) {
		m := message(r, 1)
		m.Topic, m.Retain, m.QoS = fmt.Sprintf("%02d%s", k, text(r, r.Intn(62))), true, r.Intn(3)
		b.Kept = append(b.Kept, m)
	}
	return b
}

func TestInverse(t *testing.T) {
	r := rand.New(rand.NewSource(1))
	for k := range 300 {
		b := random(r, k%10 == 0)
		x, e := record.Bytes(b)
		if e != api.OK {
			t.Fatal(e, b)
		}
		c, e := record.Parse(x)
		if e != api.OK || !same.Broker(b, c) {
			t.Fatalf("%v: %v, not %v", e, c, b)
		}
		y, _ := record.Bytes(c)
		if !bytes.Equal(x, y) {
			t.Fatal("equal brokers have different encodings")
		}
		clear(x)
		if !same.Broker(b, c) {
			t.Fatal("something is shared")
		}
	}
	x, e := record.Bytes(api.Broker{})
	y, _ := record.Bytes(api.Broker{Links: []int{}, Sessions: []api.Session{}, Kept: []api.Message{}})
	if c, f := record.Parse(x); !same.Broker(c, api.Broker{}) || e != api.OK || f != api.OK || !bytes.Equal(x, y) {
		t.Error(c, e, f)
	}
	a, _ := record.Bytes(api.Broker{Sessions: []api.Session{{Client: "a"}}})
	b, _ := record.Bytes(api.Broker{Sessions: []api.Session{{Client: "a", Subs: []api.Wish{}, In: []int{}, Out: api.Outbox{Flight: []api.Flight{}, Queue: []api.Message{}}}}})
	if !bytes.Equal(a, b) {
		t.Error("equal brokers have different encodings")
	}
}

func TestWrongBrokers(t *testing.T) {
	for i, b := range []api.Broker{
		{Links: []int{1}}, {Links: []int{0}}, {Sessions: []api.Session{{Client: "a", Link: 1}}}, {Sessions: []api.Session{{Client: "a", Link: 1, Clean: true}}}, {Sessions: []api.Session{{Client: "a"}, {Client: "b", Link: 9, Keep: 4}}},
		{Sessions: []api.Session{{Client: "a", Clean: true}}}, {Sessions: []api.Session{{Client: "a", Keep: 1}}}, {Sessions: []api.Session{{Client: ""}}}, {Sessions: []api.Session{{Client: "b"}, {Client: "a"}}}, {Kept: []api.Message{{Topic: "a", Payload: "p"}}},
		{Sessions: []api.Session{{Client: strings.Repeat("x", 300)}}},
	} {
		if x, e := record.Bytes(b); x != nil || e != api.ErrForm {
			t.Errorf("%d: %x, %v", i, x, e)
		}
	}
}

// sealed puts the right checksum behind a body.
func sealed(b []byte) []byte {
	s := crc32.ChecksumIEEE(b)
	return append(slices.Clip(b), byte(s>>24), byte(s>>16), byte(s>>8), byte(s))
}

// TestWrongBytes: what isn't just what Bytes makes is refused, even with a right checksum.
func TestWrongBytes(t *testing.T) {
	r := rand.New(rand.NewSource(2))
	for range 20 {
		x, _ := record.Bytes(random(r, false))
		for _, y := range [][]byte{x[:len(x)-1], x[1:], append(bytes.Clone(x), 0), nil, {0}, {0, 0, 0, 0}, append(bytes.Clone(x), x...)} {
			if b, e := record.Parse(y); !same.Broker(b, api.Broker{}) || e != api.ErrForm {
				t.Fatalf("%d of %d bytes: %v", len(y), len(x), e)
			}
		}
		for range 100 {
			y := bytes.Clone(x)
			y[r.Intn(len(y))] ^= 1 << r.Intn(8)
			if b, e := record.Parse(y); !same.Broker(b, api.Broker{}) || e != api.ErrForm {
				t.Fatalf("%x: %v", y, e)
			}
		}
		for range 300 {
			y := bytes.Clone(x[:len(x)-4])
			for range 1 + r.Intn(3) {
				k := r.Intn(len(y) + 1)
				switch r.Intn(3) {
				case 0:
					y = slices.Insert(y, k, byte(r.Intn(256)))
				case 1:
					y = y[:k]
				case 2:
					if k < len(y) {
						y[k] = byte(r.Intn(256))
					}
				}
			}
			y = sealed(y)
			was := bytes.Clone(y)
			b, e := record.Parse(y)
			if e == api.OK {
				if z, _ := record.Bytes(b); !bytes.Equal(y, z) || broker.Check(b) != api.OK {
					t.Fatalf("%x is read as %v", y, b)
				}
			} else if e != api.ErrForm || !same.Broker(b, api.Broker{}) {
				t.Fatal(e, b)
			}
			if !bytes.Equal(y, was) {
				t.Fatal("the argument was changed")
			}
		}
	}
	for range 20000 {
		y := make([]byte, r.Intn(60))
		r.Read(y)
		if _, e := record.Parse(sealed(y)); e != api.OK && e != api.ErrForm {
			t.Fatal(e)
		}
	}
	if _, e := record.Parse(sealed(bytes.Repeat([]byte{255}, 5000))); e != api.ErrForm {
		t.Error(e)
	}
	if _, e := record.Parse(sealed(bytes.Repeat([]byte{255}, 5))); e != api.ErrForm {
		t.Error(e)
	}
}
