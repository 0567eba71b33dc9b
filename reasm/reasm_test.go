package reasm_test

import (
	"bytes"
	"fmt"
	"math/rand"
	"strings"
	"testing"

	"kiosk/api"
	"kiosk/reasm"
	"kiosk/span"
)

const top = 1<<32 - 1

// buffer makes one of pieces "seq:data".
func buffer(next int, l ...string) api.Buffer {
	b := api.Buffer{Next: next}
	for _, s := range l {
		var seq int
		at := strings.Index(s, ":")
		fmt.Sscan(s[:at], &seq)
		b.Parts = append(b.Parts, api.Part{Seq: seq, Data: []byte(s[at+1:])})
	}
	return b
}

func show(b api.Buffer) string {
	s := fmt.Sprint(b.Next)
	for _, p := range b.Parts {
		s += fmt.Sprintf(" %d:%s", p.Seq, p.Data)
	}
	return s
}

func TestCheck(t *testing.T) {
	eight := []string{"2:a", "4:a", "6:a", "8:a", "10:a", "12:a", "14:a", "16:a"}
	for i, b := range []api.Buffer{
		buffer(0), buffer(top), buffer(0, "1:a"), buffer(0, "2:ab", "5:c"), buffer(0, "2047:a"), buffer(0, "1:"+strings.Repeat("a", 2047)),
		buffer(top, "1:ab", "4:c"), buffer(top-2, "4294967294:abc", "2:c"), buffer(0, eight...),
	} {
		if e := reasm.Check(b); e != api.OK {
			t.Errorf("%d: %s: %v", i, show(b), e)
		}
	}
	for i, b := range []api.Buffer{
		buffer(-1), buffer(1 << 32), buffer(0, "1:"), buffer(0, "0:a"), buffer(5, "4:a"), buffer(0, "2:ab", "4:c"), buffer(0, "2:ab", "3:c"), buffer(0, "5:a", "2:a"),
		buffer(0, "2048:a"), buffer(0, "2047:ab"), buffer(0, "1:"+strings.Repeat("a", 2048)), buffer(0, "-1:a"), buffer(top, "4294967296:ab"), buffer(0, "4294967297:a"),
		buffer(0, append(eight, "18:a")...), buffer(0, "1:"+strings.Repeat("a", 1<<17)), buffer(0, "4294967295:a"), buffer(0, "1:a", "1:a"), buffer(0, "2147483648:a"),
	} {
		if e := reasm.Check(b); e != api.ErrForm {
			t.Errorf("%d: %.99s: %v", i, show(b), e)
		}
		if c, d, e := reasm.Add(b, 0, []byte("a")); show(c) != "0" || d != nil || e != api.ErrForm {
			t.Errorf("%d: %v, %v, %v", i, c, d, e)
		}
	}
}

func TestAdd(t *testing.T) {
	long := strings.Repeat("x", api.MaxWindow)
	eight := []string{"12:a", "14:b", "16:c", "18:d", "20:e", "22:f", "24:g", "26:h"}
	for i, c := range []struct {
		b    api.Buffer
		seq  int
		data string
		want string
		told string
	}{
		{buffer(5), 7, "c", "5 7:c", ""},
		{buffer(5, "7:c"), 9, "e", "5 7:c 9:e", ""},
		{buffer(5, "7:c", "9:e"), 6, "bZ", "5 6:bc 9:e", ""},
		{buffer(5, "6:bc", "9:e"), 5, "a", "8 9:e", "abc"},
		{buffer(8, "9:e"), 8, "d", "10", "de"},
		{buffer(5), 5, "", "5", ""}, {buffer(5, "7:c"), 9, "", "5 7:c", ""},
		{buffer(5), 3, "ABcd", "7", "cd"}, {buffer(5), 3, "AB", "5", ""}, {buffer(5), 3, "ABc", "6", "c"},
		{buffer(5, "7:xy"), 5, "abcdef", "11", "abxyef"},
		{buffer(5, "7:x", "9:y"), 6, "bcdefg", "5 6:bxdyfg", ""},
		{buffer(5, "7:x"), 8, "yz", "5 7:xyz", ""}, {buffer(5, "7:x"), 6, "w", "5 6:wx", ""},
		{buffer(5), 5 + api.MaxWindow, "a", "5", ""}, {buffer(5), 4 + api.MaxWindow, "ab", "5 2052:a", ""},
		{buffer(5), 5, long + "more", "2053", long}, {buffer(5), 5 - 3, "abc" + long + "more", "2053", long},
		{buffer(top), top, "abc", "2", "abc"}, {buffer(top, "1:c"), top, "ab", "2", "abc"}, {buffer(1), top, "abcd", "3", "cd"}, {buffer(top), 3, "z", "4294967295 3:z", ""},
		{buffer(5), 1 << 31, "a", "5", ""}, {buffer(0), top, strings.Repeat("y", 1<<16), "2048", strings.Repeat("y", 2048)},
		{buffer(10, eight...), 28, "i", show(buffer(10, eight...)), ""},
		{buffer(10, eight...), 11, "X", show(buffer(10, "11:Xa", eight[1], eight[2], eight[3], eight[4], eight[5], eight[6], eight[7])), ""},
		{buffer(10, eight...), 13, "X", show(buffer(10, "12:aXb", eight[2], eight[3], eight[4], eight[5], eight[6], eight[7])), ""},
		{buffer(10, eight...), 10, "X", "11" + show(buffer(10, eight...))[2:], "X"},
		{buffer(10, eight...), 10, "XY", "13" + show(buffer(10, eight[1:]...))[2:], "XYa"},
		{buffer(10, eight[1:]...), 10, "X", "11" + show(buffer(10, eight[1:]...))[2:], "X"},
	} {
		b, told, e := reasm.Add(c.b, c.seq, []byte(c.data))
		if show(b) != c.want || string(told) != c.told || e != api.OK || reasm.Check(b) != api.OK {
			t.Errorf("%d: %.99s, %.99q, %v", i, show(b), told, e)
		}
	}
	for _, c := range []struct {
		seq int
		n   int
		e   api.Errno
	}{{-1, 1, api.ErrForm}, {1 << 32, 1, api.ErrForm}, {1, 1<<16 + 1, api.ErrForm}, {1, 1 << 16, api.OK}} {
		if b, told, e := reasm.Add(buffer(5), c.seq, make([]byte, c.n)); e != c.e || e != api.OK && (show(b) != "0" || told != nil) {
			t.Errorf("%v: %v, %v", c, told, e)
		}
	}
}

// TestAnyOrder: in whatever order and however often the pieces come, the stream is the same.
func TestAnyOrder(t *testing.T) {
	r := rand.New(rand.NewSource(1))
	for range 300 {
		stream := make([]byte, 1+r.Intn(5000))
		r.Read(stream)
		base := []int{0, 7, top - 50, 1 << 31}[r.Intn(4)]
		b := api.Buffer{Next: base}
		var got []byte
		for len(got) < len(stream) {
			at := max(0, len(got)-100+r.Intn(700))
			if r.Intn(4) == 0 {
				at = len(got)
			}
			at = min(at, len(stream))
			piece := bytes.Clone(stream[at:min(len(stream), at+r.Intn(400))])
			c, told, e := reasm.Add(b, span.Add(base, at), piece)
			if e != api.OK || reasm.Check(c) != api.OK || c.Next != span.Add(b.Next, len(told)) {
				t.Fatal(e, show(c))
			}
			clear(piece)
			got = append(got, told...)
			b = c
		}
		if !bytes.Equal(got, stream) || len(b.Parts) != 0 {
			t.Fatal("another stream")
		}
	}
}

// TestNothingIsShared: neither parts with each other nor with what was handed in.
func TestNothingIsShared(t *testing.T) {
	b := buffer(5, "7:c", "9:e")
	data := []byte("gh")
	for _, seq := range []int{11, 9999} {
		c, _, _ := reasm.Add(b, seq, data)
		was := show(c)
		for _, p := range c.Parts {
			_ = append(p.Data, "?????"...)
		}
		_ = append(c.Parts, api.Part{})
		if show(c) != was {
			t.Error("parts share memory:", show(c))
		}
		for _, p := range c.Parts {
			p.Data[0] = 'X'
		}
		c.Parts[0].Seq = 99
		if show(b) != "5 7:c 9:e" || string(data) != "gh" {
			t.Error("an argument was changed:", show(b), string(data))
		}
	}
	c, told, _ := reasm.Add(buffer(5, "9:e"), 5, []byte("ab"))
	_ = append(told, "ZZZZZ"...)
	if show(c) != "7 9:e" {
		t.Error(show(c))
	}
}
