package sum_test

import (
	"bytes"
	"math/rand"
	"testing"

	"kiosk/sum"
)

func TestAdd(t *testing.T) {
	for _, c := range []struct {
		s    int
		b    string
		want int
	}{
		{0, "", 0}, {65535, "", 65535}, {7, "", 7},
		{0, "\x00\x01\xf2\x03", 0xf204},
		{0, "\x12", 0x1200}, {0, "\x12\x34\x56", 0x1234 + 0x5600},
		{1, "\xff\xff", 1}, {0, "\xff\xff", 65535}, {65535, "\xff\xff", 65535}, {65535, "\x00\x01", 1},
		{0, "\xff\xff\x00\x01\xff\xff", 1},
		{0xffff, "\xff", 0xff00},
	} {
		if s := sum.Add(c.s, []byte(c.b)); s != c.want {
			t.Errorf("Add(%x, %x): %x", c.s, c.b, s)
		}
	}
	if s := sum.Add(0, bytes.Repeat([]byte{255}, 1<<20)); s != 65535 {
		t.Errorf("%x", s)
	}
	for _, s := range []int{-1, -1 << 63, 1<<63 - 1, 1 << 16} { // nothing is promised, but that it ends
		sum.Add(s, []byte{1})
	}
}

func TestCheck(t *testing.T) {
	for _, c := range []struct {
		b    string
		want int
	}{{"\x00\x01\xf2\x03", 0x0dfb}, {"", 65535}, {"\xff\xff", 0}, {"\x80", 0x7fff}} {
		if s := sum.Check([]byte(c.b)); s != c.want {
			t.Errorf("Check(%x): %x", c.b, s)
		}
	}
}

func TestConsequences(t *testing.T) {
	r := rand.New(rand.NewSource(1))
	for range 500 {
		b := make([]byte, 2+r.Intn(100))
		r.Read(b)
		if r.Intn(4) == 0 {
			clear(b)
		}
		k := r.Intn(len(b)/2) * 2
		if sum.Add(sum.Add(0, b[:k]), b[k:]) != sum.Add(0, b) {
			t.Fatalf("%x in two parts", b)
		}
		want := 0
		for i, x := range b {
			want += int(x) << (8 - i%2*8)
		}
		for want > 65535 {
			want = want%65536 + want/65536
		}
		if sum.Add(0, b) != want {
			t.Fatalf("%x: %x", b, want)
		}
		b[k], b[k+1] = 0, 0
		c := sum.Check(b)
		b[k], b[k+1] = byte(c>>8), byte(c)
		if sum.Check(b) != 0 {
			t.Fatalf("%x isn't whole", b)
		}
	}
}
