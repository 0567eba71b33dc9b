package stream_test

import (
	"bytes"
	"fmt"
	"math/rand"
	"slices"
	"testing"

	"kiosk/api"
	"kiosk/pack"
	"kiosk/stream"
)

var packets = []api.Mq{
	{Kind: api.MqConnect, Client: "a", Clean: true},
	{Kind: api.MqPublish, Topic: "t", Payload: "hello", QoS: 1, ID: 7},
	{Kind: api.MqPingreq},
	{Kind: api.MqSubscribe, ID: 9, Wishes: []api.Wish{{Filter: "a/#", QoS: 1}}},
}

func encoded(l ...api.Mq) []byte {
	var b []byte
	for _, p := range l {
		x, _ := pack.Bytes(p)
		b = append(b, x...)
	}
	return b
}

func TestFeed(t *testing.T) {
	all := encoded(packets...)
	for i, c := range []struct {
		rest, b string
		l       []api.Mq
		left    string
		e       api.Errno
	}{
		{"", "", nil, "", api.OK},
		{"", string(all), packets, "", api.OK},
		{string(all), "", packets, "", api.OK},
		{string(all[:5]), string(all[5:]), packets, "", api.OK},
		{"", string(all) + "0", packets, "0", api.OK},
		{string(all) + "0", "", packets, "0", api.OK},
		{"0", "\x03\x00\x01", nil, "0\x03\x00\x01", api.OK},
		{"0\x03\x00\x01", "a0", []api.Mq{{Kind: api.MqPublish, Topic: "a"}}, "0", api.OK},
		{"", string(all) + "\x00\x00", packets, "", api.ErrForm},
		{"", "\x00\x00" + string(all), nil, "", api.ErrForm},
		{string(all) + "\xc0", "\x80\x00more", packets, "", api.ErrForm},
		{"", string(all) + "\x30\xff\xff\x7f", packets, "", api.ErrLimit},
		{"\x30\xff\xff", "\x7f", nil, "", api.ErrLimit},
		{"\x00", "", nil, "\x00", api.OK},
	} {
		rest, b := []byte(c.rest), []byte(c.b)
		l, left, e := stream.Feed(rest, b)
		if fmt.Sprint(l) != fmt.Sprint(c.l) || string(left) != c.left || e != c.e {
			t.Errorf("%d: %v, %q, %v", i, l, left, e)
		}
		for k := range left {
			left[k] = '!'
		}
		_ = append(left, "!!!"...)
		if string(rest) != c.rest || string(b) != c.b {
			t.Errorf("%d: an argument was changed", i)
		}
	}
}

// TestAnySplit: however a stream is split, its packets are the same, up to the same error.
func TestAnySplit(t *testing.T) {
	r := rand.New(rand.NewSource(1))
	for range 500 {
		var b []byte
		for range r.Intn(6) {
			b = append(b, encoded(packets[r.Intn(len(packets))])...)
		}
		switch r.Intn(3) {
		case 0:
			b = append(b, 0, 0)
			b = append(b, encoded(packets...)...)
		case 1:
			b = append(b, encoded(packets...)[:r.Intn(20)]...)
		}
		want, wantLeft, wantErr := stream.Feed(nil, b)
		var got []api.Mq
		var left []byte
		e := api.OK
		for at := 0; at < len(b) && e == api.OK; {
			n := min(len(b)-at, r.Intn(9))
			var l []api.Mq
			l, left, e = stream.Feed(left, b[at:at+n])
			got = slices.Concat(got, l)
			at += n
		}
		if fmt.Sprint(got) != fmt.Sprint(want) || !bytes.Equal(left, wantLeft) || e != wantErr {
			t.Fatalf("%x: %v, %x, %v", b, got, left, e)
		}
	}
}
