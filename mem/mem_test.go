package mem_test

import (
	"bytes"
	"fmt"
	"math/rand"
	"testing"

	"kiosk/api"
	"kiosk/mem"
)

func TestNew(t *testing.T) {
	for _, n := range []int{-1, -1 << 63, api.MaxMem + 1, 1<<63 - 1} {
		if m, e := mem.New(n); m != nil || e != api.ErrForm {
			t.Errorf("New(%d): %v, %v", n, m, e)
		}
	}
	for _, n := range []int{0, 1, 77, api.MaxMem} {
		m, e := mem.New(n)
		if e != api.OK || m.Len() != n {
			t.Fatalf("New(%d): %v", n, e)
		}
		b, e := m.Read(0, n)
		if e != api.OK || !bytes.Equal(b, make([]byte, n)) {
			t.Errorf("New(%d) isn't of zeros: %v", n, e)
		}
	}
}

func TestNumbers(t *testing.T) {
	m, _ := mem.New(16)
	for _, c := range []struct {
		at, n int
		v     uint64
		want  string
	}{
		{0, 2, 0x1234, "34120000000000000000000000000000"},
		{8, 8, 0x0102030405060708, "34120000000000000807060504030201"},
		{15, 1, 0xffee, "341200000000000008070605040302ee"},
		{4, 4, 1<<64 - 1, "34120000ffffffff08070605040302ee"},
	} {
		if e := m.Put(c.at, c.n, c.v); e != api.OK {
			t.Errorf("Put(%d, %d): %v", c.at, c.n, e)
		}
		b, _ := m.Read(0, 16)
		if fmt.Sprintf("%x", b) != c.want {
			t.Errorf("Put(%d, %d) left %x", c.at, c.n, b)
		}
	}
	if v, e := m.Get(0, 8); v != 0xffffffff00001234 || e != api.OK {
		t.Errorf("Get: %x, %v", v, e)
	}
}

func TestNumbersRefused(t *testing.T) {
	m, _ := mem.New(16)
	m.Write(0, []byte("abcdefghijklmnop"))
	for _, c := range []struct {
		at, n int
		e     api.Errno
	}{
		{0, 0, api.ErrForm}, {0, 3, api.ErrForm}, {0, 16, api.ErrForm}, {0, -1, api.ErrForm}, {99, 5, api.ErrForm}, {-1, -8, api.ErrForm},
		{-1, 1, api.ErrLimit}, {16, 1, api.ErrLimit}, {15, 2, api.ErrLimit}, {9, 8, api.ErrLimit}, {1<<63 - 1, 8, api.ErrLimit}, {-1 << 63, 4, api.ErrLimit},
	} {
		if v, e := m.Get(c.at, c.n); v != 0 || e != c.e {
			t.Errorf("Get(%d, %d): %d, %v", c.at, c.n, v, e)
		}
		if e := m.Put(c.at, c.n, 7); e != c.e {
			t.Errorf("Put(%d, %d): %v", c.at, c.n, e)
		}
	}
	if b, _ := m.Read(0, 16); string(b) != "abcdefghijklmnop" {
		t.Errorf("%q", b)
	}
}

func TestReadAndWrite(t *testing.T) {
	m, _ := mem.New(8)
	for _, c := range []struct {
		at, n int
		e     api.Errno
	}{{0, 8, api.OK}, {8, 0, api.OK}, {3, 5, api.OK}, {0, -1, api.ErrForm}, {-1, -1, api.ErrForm}, {-1, 0, api.ErrLimit}, {9, 0, api.ErrLimit}, {3, 6, api.ErrLimit}, {1, 1<<63 - 1, api.ErrLimit}} {
		b, e := m.Read(c.at, c.n)
		if e != c.e || e == api.OK && len(b) != c.n || e != api.OK && b != nil {
			t.Errorf("Read(%d, %d): %v, %v", c.at, c.n, b, e)
		}
	}
	for _, c := range []struct {
		at int
		b  string
		e  api.Errno
	}{{0, "abcdefgh", api.OK}, {6, "xy", api.OK}, {8, "", api.OK}, {-1, "", api.ErrLimit}, {9, "", api.ErrLimit}, {7, "zz", api.ErrLimit}, {0, "123456789", api.ErrLimit}, {1<<63 - 1, "1", api.ErrLimit}} {
		if e := m.Write(c.at, []byte(c.b)); e != c.e {
			t.Errorf("Write(%d, %q): %v", c.at, c.b, e)
		}
	}
	if b, _ := m.Read(0, 8); string(b) != "abcdefxy" {
		t.Errorf("%q", b)
	}
}

func TestNothingIsShared(t *testing.T) {
	m, _ := mem.New(8)
	given := []byte("abcd")
	m.Write(0, given)
	given[0] = 'X'
	b, _ := m.Read(0, 4)
	_ = append(b, 'Y')
	b[1] = 'Z'
	if now, _ := m.Read(0, 8); string(now) != "abcd\x00\x00\x00\x00" {
		t.Errorf("%q", now)
	}
	other, _ := mem.New(8)
	if now, _ := other.Read(0, 8); !bytes.Equal(now, make([]byte, 8)) {
		t.Errorf("another memory has %q", now)
	}
}

// TestAgainstModel: whatever is done, the memory is as a plain slice would be.
func TestAgainstModel(t *testing.T) {
	r := rand.New(rand.NewSource(1))
	m, _ := mem.New(40)
	model := make([]byte, 40)
	for range 5000 {
		at, n, v := r.Intn(46)-3, 1<<r.Intn(4), r.Uint64()
		inside := at >= 0 && at+n <= 40
		if e := m.Put(at, n, v); (e == api.OK) != inside {
			t.Fatalf("Put(%d, %d): %v", at, n, e)
		}
		var want uint64
		for i := 0; inside && i < n; i++ {
			model[at+i] = byte(v >> (8 * i))
			want |= uint64(model[at+i]) << (8 * i)
		}
		if got, e := m.Get(at, n); got != want || (e == api.OK) != inside {
			t.Fatalf("Get(%d, %d): %x, %v", at, n, got, e)
		}
		if b, _ := m.Read(0, 40); !bytes.Equal(b, model) {
			t.Fatalf("%x, not %x", b, model)
		}
	}
}
