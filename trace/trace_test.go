package trace_test

import (
	"bytes"
	"fmt"
	"math/rand"
	"testing"

	"kiosk/api"
	"kiosk/ether"
	"kiosk/ip"
	"kiosk/pack"
	"kiosk/seg"
	"kiosk/span"
	"kiosk/trace"
)

const (
	peer = 0x0a000002
	port = 5000
)

// wrap makes a frame of a segment.
func wrap(p api.Packet, s api.Seg) []byte {
	b, _ := seg.Bytes(p.Src, p.Dst, s)
	p.Data = b
	b, _ = ip.Bytes(p)
	b, _ = ether.Bytes(api.Frame{Dst: 99, Src: api.Mac, Type: 0x0800, Data: b})
	return b
}

// frame makes a frame of the kernel to the peer.
func frame(flags, seq int, data string) []byte {
	return wrap(api.Packet{Src: api.IP, Dst: peer, Proto: 6, TTL: 64}, api.Seg{SrcPort: api.Port, DstPort: port, Seq: seq, Flags: flags, Data: []byte(data)})
}

const (
	syn  = api.Syn | api.AckFlag
	data = api.AckFlag | api.Psh
	fin  = api.AckFlag | api.Fin
)

func TestStream(t *testing.T) {
	s := frame(syn, 100, "ignored")
	for i, c := range []struct {
		l    [][]byte
		want string
		over bool
	}{
		{nil, "", false},
		{[][]byte{s, frame(data, 103, "c"), frame(data, 101, "ab")}, "abc", false},
		{[][]byte{frame(data, 101, "ab"), s, frame(data, 103, "c")}, "", false},
		{[][]byte{frame(data, 101, "ab"), frame(fin, 1, ""), frame(api.Rst, 1, "")}, "", false},
		{[][]byte{s, frame(data, 101, "ab"), s, frame(data, 101, "cd")}, "cd", false},
		{[][]byte{s, frame(data, 101, "ab"), frame(api.Syn, 200, ""), frame(data, 101, "cd"), frame(data, 201, "ef")}, "ef", false},
		{[][]byte{s, frame(data, 101, "ab"), frame(data, 101, "ab"), frame(data, 102, "bc")}, "abc", false},
		{[][]byte{s, frame(data, 101, "ab"), frame(api.Rst, 0, "")}, "ab", true},
		{[][]byte{s, frame(api.Rst, 0, ""), frame(data, 101, "ab")}, "ab", true},
		{[][]byte{s, frame(api.Rst|data, 101, "ab")}, "ab", true},
		{[][]byte{s, frame(api.Rst, 0, ""), s}, "", false},
		{[][]byte{s, frame(fin, 101, "")}, "", true},
		{[][]byte{s, frame(fin, 101, "ab")}, "ab", true},
		{[][]byte{s, frame(fin, 103, ""), frame(data, 101, "ab")}, "ab", true},
		{[][]byte{s, frame(fin, 103, ""), frame(data, 101, "a")}, "a", false},
		{[][]byte{s, frame(fin, 101, ""), frame(data, 101, "a")}, "a", false},
		{[][]byte{s, frame(fin, 103, ""), s, frame(data, 101, "ab")}, "ab", false},
		{[][]byte{frame(syn, 1<<32-1, ""), frame(data, 2, "c"), frame(fin, 0, "ab"), frame(fin, 3, "")}, "abc", true},
		{[][]byte{frame(syn, 1<<32-3, ""), frame(fin, 1<<32-2, "abcd")}, "abcd", true},
	} {
		b, over, e := trace.Stream(c.l, peer, port)
		if string(b) != c.want || over != c.over || e != api.OK {
			t.Errorf("%d: %q, %v, %v", i, b, over, e)
		}
	}
}

// TestOtherFrames: only whole frames of the kernel to that address and port count.
func TestOtherFrames(t *testing.T) {
	p := api.Packet{Src: api.IP, Dst: peer, Proto: 6, TTL: 64}
	s := api.Seg{SrcPort: api.Port, DstPort: port, Seq: 101, Flags: data, Data: []byte("no")}
	var l [][]byte
	for _, f := range []func(*api.Packet, *api.Seg){
		func(p *api.Packet, s *api.Seg) { p.Src++ }, func(p *api.Packet, s *api.Seg) { p.Dst++ }, func(p *api.Packet, s *api.Seg) { p.Proto = 17 },
		func(p *api.Packet, s *api.Seg) { s.SrcPort++ }, func(p *api.Packet, s *api.Seg) { s.DstPort++ },
	} {
		q, x := p, s
		f(&q, &x)
		l = append(l, wrap(q, x))
	}
	whole := wrap(p, s)
	for _, at := range []int{12, 13, 14, 20, 24, 30, 34, 47, 54} {
		torn := bytes.Clone(whole)
		torn[at] ^= 8
		l = append(l, torn)
	}
	l = append(l, whole[:20], nil, whole[:len(whole)-1], append(bytes.Clone(whole), make([]byte, api.MaxFrame)...))
	for i, f := range l {
		if b, over, e := trace.Stream([][]byte{frame(syn, 100, ""), f}, peer, port); len(b) != 0 || over || e != api.OK {
			t.Errorf("%d: %q, %v, %v", i, b, over, e)
		}
	}
	if b, _, _ := trace.Stream([][]byte{frame(syn, 100, ""), append(whole, "padding"...)}, peer, port); string(b) != "no" {
		t.Errorf("%q", b)
	}
	other := append([]byte{9, 9, 9, 9, 9, 9}, frame(data, 101, "yes")[6:]...) // to any MAC address
	if b, _, _ := trace.Stream([][]byte{frame(syn, 100, ""), other}, peer, port); string(b) != "yes" {
		t.Errorf("%q", b)
	}
}

func TestWrongArguments(t *testing.T) {
	l := [][]byte{frame(syn, 100, ""), frame(data, 101, "\x00\x00")}
	for _, c := range [][2]int{{-1, port}, {1 << 32, port}, {peer, -1}, {peer, 65536}} {
		if b, over, e := trace.Stream(l, c[0], c[1]); b != nil || over || e != api.ErrForm {
			t.Errorf("%v: %v", c, e)
		}
		if x, e := trace.Packets(l, c[0], c[1]); x != nil || e != api.ErrForm {
			t.Errorf("%v: %v", c, e)
		}
	}
	for _, c := range [][2]int{{0, 0}, {1<<32 - 1, 65535}} {
		if b, over, e := trace.Stream(l, c[0], c[1]); len(b) != 0 || over || e != api.OK {
			t.Errorf("%v: %v", c, e)
		}
	}
}

func TestPackets(t *testing.T) {
	want := []api.Mq{{Kind: api.MqConnack}, {Kind: api.MqPublish, Topic: "t", Payload: "p"}, {Kind: api.MqPingresp}}
	var all []byte
	for _, p := range want {
		b, _ := pack.Bytes(p)
		all = append(all, b...)
	}
	for i, c := range []struct {
		more string
		e    api.Errno
	}{{"", api.OK}, {"\x30", api.OK}, {"\x00\x00", api.ErrForm}, {"\x30\xff\xff\x7f", api.ErrLimit}} {
		l := [][]byte{frame(syn, 100, ""), frame(data, 106, string(all[5:])+c.more), frame(data, 101, string(all[:5]))}
		if got, e := trace.Packets(l, peer, port); fmt.Sprint(got) != fmt.Sprint(want) || e != c.e {
			t.Errorf("%d: %v, %v", i, got, e)
		}
	}
	if got, e := trace.Packets(nil, peer, port); len(got) != 0 || e != api.OK {
		t.Error(got, e)
	}
}

// TestAnyOrder: frames that are captured twice, or in another order within a window, tell the same.
func TestAnyOrder(t *testing.T) {
	r := rand.New(rand.NewSource(1))
	for range 200 {
		iss := []int{r.Intn(1 << 32), 1<<32 - 500}[r.Intn(2)]
		stream := make([]byte, r.Intn(3000))
		r.Read(stream)
		l := [][]byte{frame(syn, iss, "")}
		for at := 0; at < len(stream); {
			n := min(len(stream)-at, 1+r.Intn(400))
			l = append(l, frame(data, span.Add(iss, 1+at), string(stream[at:at+n])))
			at += n
		}
		l = append(l, frame(fin, span.Add(iss, 1+len(stream)), ""))
		for k := 2; k < len(l); k++ {
			if r.Intn(2) == 0 {
				l[k], l[k-1] = l[k-1], l[k]
			}
		}
		var twice [][]byte
		for _, f := range l {
			twice = append(twice, f)
			if len(twice) > 1 && r.Intn(3) == 0 {
				twice = append(twice, twice[1+r.Intn(len(twice)-1)])
			}
		}
		var was [][]byte
		for _, f := range twice {
			was = append(was, bytes.Clone(f))
		}
		b, over, e := trace.Stream(twice, peer, port)
		if !bytes.Equal(b, stream) || !over || e != api.OK {
			t.Fatalf("%d bytes of %d: %v, %v", len(b), len(stream), over, e)
		}
		clear(b)
		for k := range was {
			if !bytes.Equal(was[k], twice[k]) {
				t.Fatal("an argument was changed")
			}
		}
	}
}
