package crc_test

import (
	"hash/crc32"
	"math/rand"
	"testing"

	"kiosk/crc"
)

func TestSum(t *testing.T) {
	for _, c := range []struct {
		s    uint32
		b    string
		want uint32
	}{{0, "123456789", 0xcbf43926}, {0, "", 0}, {77, "", 77}, {0, "\x00", 0xd202ef8d}, {0xcbf43926, "", 0xcbf43926}, {0, "a", 0xe8b7be43}} {
		if s := crc.Sum(c.s, []byte(c.b)); s != c.want {
			t.Errorf("Sum(%x, %q): %x", c.s, c.b, s)
		}
	}
	if crc.Sum(5, nil) != 5 {
		t.Error("nothing")
	}
}

func TestParts(t *testing.T) {
	r := rand.New(rand.NewSource(1))
	for range 500 {
		b := make([]byte, r.Intn(300))
		r.Read(b)
		k := r.Intn(len(b) + 1)
		whole := crc.Sum(0, b)
		if crc.Sum(crc.Sum(0, b[:k]), b[k:]) != whole || whole != crc32.ChecksumIEEE(b) {
			t.Fatalf("%x at %d", b, k)
		}
		if len(b) > 0 {
			was := string(b)
			b[r.Intn(len(b))] ^= 1 << r.Intn(8)
			if crc.Sum(0, b) == whole {
				t.Fatalf("%x and %x have one sum", was, b)
			}
		}
	}
}

func TestArgumentStays(t *testing.T) {
	b := []byte("abc")
	crc.Sum(1, b)
	if string(b) != "abc" {
		t.Error(b)
	}
}
