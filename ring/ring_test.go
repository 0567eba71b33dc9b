package ring_test

import (
	"fmt"
	"math/rand"
	"slices"
	"testing"

	"kiosk/api"
	"kiosk/mem"
	"kiosk/ring"
)

// pair makes both sides of a ring of q in a memory of just its size.
func pair(t *testing.T, q int) (*mem.Mem, *ring.Driver, *ring.Device) {
	t.Helper()
	_, _, size, _ := ring.Layout(q)
	m, _ := mem.New(size)
	a, e := ring.NewDriver(m, q)
	b, f := ring.NewDevice(m, q)
	if e != api.OK || f != api.OK {
		t.Fatalf("a ring of %d: %v, %v", q, e, f)
	}
	return m, a, b
}

func read(m *mem.Mem, at, n int) string {
	b, _ := m.Read(at, n)
	return fmt.Sprintf("%x", b)
}

func TestLayout(t *testing.T) {
	for _, c := range [][4]int{{1, 16, 24, 36}, {2, 32, 40, 60}, {4, 64, 76, 112}, {8, 128, 148, 216}, {16, 256, 292, 424}, {32, 512, 580, 840}, {64, 1024, 1156, 1672}} {
		a, u, s, e := ring.Layout(c[0])
		if [4]int{c[0], a, u, s} != c || e != api.OK {
			t.Errorf("Layout(%d): %d, %d, %d, %v", c[0], a, u, s, e)
		}
	}
	for _, q := range []int{0, -1, -4, 3, 6, 63, 65, 128, 1 << 62, -1 << 63} {
		if a, u, s, e := ring.Layout(q); a != 0 || u != 0 || s != 0 || e != api.ErrForm {
			t.Errorf("Layout(%d): %d, %d, %d, %v", q, a, u, s, e)
		}
	}
}

func TestNew(t *testing.T) {
	whole, _ := mem.New(112)
	short, _ := mem.New(111)
	for _, c := range []struct {
		m *mem.Mem
		q int
		e api.Errno
	}{{whole, 4, api.OK}, {short, 4, api.ErrLimit}, {short, 3, api.ErrForm}, {nil, 4, api.ErrForm}, {whole, 0, api.ErrForm}, {whole, 128, api.ErrForm}, {whole, 8, api.ErrLimit}} {
		a, e := ring.NewDriver(c.m, c.q)
		b, f := ring.NewDevice(c.m, c.q)
		if e != c.e || f != c.e || (a != nil) != (e == api.OK) || (b != nil) != (e == api.OK) {
			t.Errorf("%d: %v, %v", c.q, e, f)
		}
	}
	whole.Write(0, []byte("not of zeros"))
	ring.NewDriver(whole, 4)
	ring.NewDevice(whole, 4)
	if b, _ := whole.Read(0, 12); string(b) != "not of zeros" {
		t.Errorf("the memory was changed: %q", b)
	}
}

func TestAdd(t *testing.T) {
	m, a, _ := pair(t, 4)
	if a.Free() != 4 {
		t.Errorf("%d are free", a.Free())
	}
	head, e := a.Add([]api.Buf{{Addr: 0x11223344, Len: 7}, {Addr: 5, Len: 1 << 16, Write: true}})
	if head != 0 || e != api.OK || a.Free() != 2 {
		t.Errorf("%d, %v, %d", head, e, a.Free())
	}
	if s := read(m, 0, 32); s != "4433221100000000"+"07000000"+"0100"+"0100"+"0500000000000000"+"00000100"+"0200"+"0000" {
		t.Error(s)
	}
	if s := read(m, 64, 12); s != "0000"+"0100"+"0000000000000000" {
		t.Error(s)
	}
	head, e = a.Add([]api.Buf{{Addr: 1 << 32, Len: 1}})
	if head != 2 || e != api.OK || a.Free() != 1 {
		t.Errorf("%d, %v, %d", head, e, a.Free())
	}
	if s := read(m, 32, 32); s != "0000000001000000"+"01000000"+"0000"+"0000"+"0000000000000000"+"0000000000000000" {
		t.Error(s)
	}
	if s := read(m, 64, 12); s != "0000"+"0200"+"0000"+"0200"+"00000000" {
		t.Error(s)
	}
	if head, e = a.Add([]api.Buf{{Addr: 1, Len: 1}, {Addr: 1, Len: 1}}); head != 0 || e != api.ErrFull || a.Free() != 1 {
		t.Errorf("%d, %v, %d", head, e, a.Free())
	}
}

func TestAddRefused(t *testing.T) {
	for _, c := range []struct {
		l []api.Buf
		e api.Errno
	}{
		{nil, api.ErrForm},
		{[]api.Buf{{Addr: -1, Len: 1}}, api.ErrForm},
		{[]api.Buf{{Addr: 1<<32 + 1, Len: 1}}, api.ErrForm},
		{[]api.Buf{{Addr: 1, Len: 0}}, api.ErrForm},
		{[]api.Buf{{Addr: 1, Len: 1<<16 + 1}}, api.ErrForm},
		{[]api.Buf{{Addr: 1, Len: 1, Write: true}, {Addr: 1, Len: 1}}, api.ErrForm},
		{slices.Repeat([]api.Buf{{Len: 1}}, api.MaxBufs+1), api.ErrForm},
		{slices.Repeat([]api.Buf{{Len: 1}}, 9), api.ErrFull},
		{slices.Repeat([]api.Buf{{Len: 1}}, 8), api.OK},
	} {
		m, a, _ := pair(t, 8)
		head, e := a.Add(c.l)
		if e != c.e || head != 0 {
			t.Errorf("%v: %d, %v", c.l, head, e)
		}
		if _, _, size, _ := ring.Layout(8); e != api.OK && (a.Free() != 8 || read(m, 0, size) != fmt.Sprintf("%x", make([]byte, size))) {
			t.Errorf("%v: something was done", c.l)
		}
	}
	_, a, b := pair(t, 64)
	if _, e := a.Add(slices.Repeat([]api.Buf{{Len: 3}}, api.MaxBufs)); e != api.OK {
		t.Error(e)
	}
	if _, l, ok, e := b.Pop(); len(l) != api.MaxBufs || !ok || e != api.OK {
		t.Error(len(l), ok, e)
	}
}

// TestThereAndBack: the order is kept, and the smallest free descriptors are taken.
func TestThereAndBack(t *testing.T) {
	m, a, b := pair(t, 4)
	if head, n, ok, e := a.Used(); head != 0 || n != 0 || ok || e != api.OK {
		t.Error(head, n, ok, e)
	}
	if head, l, ok, e := b.Pop(); head != 0 || l != nil || ok || e != api.OK {
		t.Error(head, l, ok, e)
	}
	lists := [][]api.Buf{{{Addr: 1, Len: 10, Write: true}}, {{Addr: 2, Len: 20}, {Addr: 3, Len: 30, Write: true}}, {{Addr: 4, Len: 40}}}
	for k, l := range lists {
		if head, e := a.Add(l); head != []int{0, 1, 3}[k] || e != api.OK {
			t.Fatal(head, e)
		}
	}
	for k, l := range lists {
		head, got, ok, e := b.Pop()
		if head != []int{0, 1, 3}[k] || !slices.Equal(got, l) || !ok || e != api.OK {
			t.Fatal(head, got, ok, e)
		}
	}
	for _, c := range [][2]int{{3, 0}, {0, 10}} {
		if e := b.Push(c[0], c[1]); e != api.OK {
			t.Fatal(e)
		}
	}
	if s := read(m, 76, 20); s != "0000"+"0200"+"0300000000000000"+"000000000a000000" {
		t.Error(s)
	}
	for _, c := range [][2]int{{3, 0}, {0, 10}} {
		if head, n, ok, e := a.Used(); head != c[0] || n != c[1] || !ok || e != api.OK {
			t.Fatal(head, n, ok, e)
		}
	}
	if a.Free() != 2 {
		t.Error(a.Free())
	}
	if head, e := a.Add([]api.Buf{{Addr: 9, Len: 9}, {Addr: 8, Len: 8}}); head != 0 || e != api.OK {
		t.Error(head, e)
	}
	if s := read(m, 12, 4) + read(m, 60, 4); s != "0100"+"0300"+"0000"+"0000" {
		t.Errorf("0 isn't joined with 3: %s", s)
	}
	if _, l, ok, _ := b.Pop(); !ok || !slices.Equal(l, []api.Buf{{Addr: 9, Len: 9}, {Addr: 8, Len: 8}}) {
		t.Error(l, ok)
	}
}

func TestUsedRefused(t *testing.T) {
	for i, c := range []struct {
		at, n int
		v     uint64
	}{
		{78, 2, 3},     // three ahead, two in use
		{78, 2, 65535}, // behind
		{80, 4, 4},     // no head
		{80, 4, 1},     // the second of a chain
		{80, 4, 3},     // free
		{80, 4, 1 << 31},
		{84, 4, 31}, // more than may be written
		{84, 4, 1<<32 - 1},
	} {
		m, a, b := pair(t, 4)
		a.Add([]api.Buf{{Addr: 2, Len: 20}, {Addr: 3, Len: 30, Write: true}})
		a.Add([]api.Buf{{Addr: 4, Len: 40}})
		b.Push(0, 30)
		m.Put(c.at, c.n, c.v)
		head, n, ok, e := a.Used()
		if head != 0 || n != 0 || ok || e != api.ErrForm || a.Free() != 1 {
			t.Errorf("%d: %d, %d, %v, %v, %d", i, head, n, ok, e, a.Free())
		}
		b.Push(0, 0)
		if head, n, ok, e := a.Used(); head != 0 || n != 0 || ok || e != api.ErrState {
			t.Errorf("%d: %d, %d, %v, %v", i, head, n, ok, e)
		}
		if _, e := a.Add(nil); e != api.ErrState {
			t.Errorf("%d: %v", i, e)
		}
	}
	_, a, b := pair(t, 4)
	a.Add([]api.Buf{{Addr: 4, Len: 40, Write: true}})
	b.Push(0, 40)
	b.Push(0, 40)
	if _, _, ok, e := a.Used(); ok || e != api.ErrForm {
		t.Error("more than in use:", ok, e)
	}
}

// TestUsedTwice: a head isn't given back twice.
func TestUsedTwice(t *testing.T) {
	_, a, b := pair(t, 4)
	a.Add([]api.Buf{{Addr: 4, Len: 40}})
	a.Add([]api.Buf{{Addr: 4, Len: 40}})
	b.Push(1, 0)
	b.Push(1, 0)
	if head, _, ok, e := a.Used(); head != 1 || !ok || e != api.OK {
		t.Error(head, ok, e)
	}
	if _, _, ok, e := a.Used(); ok || e != api.ErrForm {
		t.Error(ok, e)
	}
}

type word struct {
	at, n int
	v     uint64
}

func TestPopRefused(t *testing.T) {
	for i, c := range [][]word{
		{{66, 2, 5}},                 // further ahead than 4
		{{66, 2, 65535}},             // behind
		{{68, 2, 4}},                 // no head
		{{68, 2, 65535}},             //
		{{12, 2, 4}},                 // flags
		{{12, 2, 0x101}},             //
		{{14, 2, 4}},                 // next
		{{14, 2, 0}},                 // a circle
		{{28, 2, 1}, {30, 2, 1}},     // another circle
		{{0, 8, 1<<32 + 1}},          // address
		{{0, 8, 1 << 63}},            //
		{{0, 8, 1<<64 - 1}},          //
		{{8, 4, 0}},                  // length
		{{24, 4, 1<<16 + 1}},         //
		{{24, 4, 1<<32 - 1}},         //
		{{12, 2, 3}, {28, 2, 0}},     // written before read
		{{68, 2, 2}, {32 + 8, 4, 0}}, // a descriptor that nobody wrote
		{{14, 2, 4}, {72, 2, 5}},     // next is where the available ring begins, which would pass for a descriptor
	} {
		m, a, b := pair(t, 4)
		a.Add([]api.Buf{{Addr: 2, Len: 20}, {Addr: 3, Len: 30, Write: true}})
		for _, w := range c {
			m.Put(w.at, w.n, w.v)
		}
		head, l, ok, e := b.Pop()
		if head != 0 || l != nil || ok || e != api.ErrForm {
			t.Errorf("%d: %d, %v, %v, %v", i, head, l, ok, e)
		}
		if head, l, ok, e := b.Pop(); head != 0 || l != nil || ok || e != api.ErrState {
			t.Errorf("%d: %d, %v, %v, %v", i, head, l, ok, e)
		}
		if e := b.Push(-1, -1); e != api.ErrState {
			t.Errorf("%d: %v", i, e)
		}
	}
}

// TestPopLimits: what a device may just take.
func TestPopLimits(t *testing.T) {
	for i, c := range [][]word{
		{{66, 2, 4}},                           // four ahead
		{{12, 2, 0}, {14, 2, 99}},              // next where the chain ends
		{{0, 8, 1 << 32}, {8, 4, 1 << 16}},     //
		{{28, 2, 1}, {30, 2, 2}, {40, 4, 1}},   // three
		{{12, 2, 2}, {68, 2, 1}, {66, 2, 1}},   // a head in the middle
		{{12, 2, 3}, {28, 2, 2}, {0, 8, 1234}}, // two that are written
	} {
		m, a, b := pair(t, 4)
		a.Add([]api.Buf{{Addr: 2, Len: 20}, {Addr: 3, Len: 30}})
		for _, w := range c {
			m.Put(w.at, w.n, w.v)
		}
		if _, l, ok, e := b.Pop(); len(l) == 0 || !ok || e != api.OK {
			t.Errorf("%d: %v, %v, %v", i, l, ok, e)
		}
	}
	// 64 descriptors: a chain of 17 is too long.
	for _, n := range []int{16, 17} {
		m, _, b := pair(t, 64)
		for k := range n {
			m.Put(16*k+8, 4, 1)
			m.Put(16*k+12, 2, 1)
			m.Put(16*k+14, 2, uint64(k+1))
		}
		m.Put(16*(n-1)+12, 2, 0)
		m.Put(1024+2, 2, 1)
		if _, l, ok, e := b.Pop(); ok != (n == 16) || ok && len(l) != 16 || !ok && e != api.ErrForm {
			t.Errorf("%d: %d, %v, %v", n, len(l), ok, e)
		}
	}
}

func TestPush(t *testing.T) {
	m, _, b := pair(t, 4)
	for _, c := range []struct {
		head, n int
		e       api.Errno
	}{{0, 0, api.OK}, {3, 1<<32 - 1, api.OK}, {4, 0, api.ErrForm}, {-1, 0, api.ErrForm}, {0, -1, api.ErrForm}, {0, 1 << 32, api.ErrForm}} {
		if e := b.Push(c.head, c.n); e != c.e {
			t.Errorf("Push(%d, %d): %v", c.head, c.n, e)
		}
	}
	if s := read(m, 76, 36); s != "0000"+"0200"+"0000000000000000"+"03000000ffffffff"+"00000000000000000000000000000000" {
		t.Error(s)
	}
}

// TestOwnIndexes: each side keeps its own index, whatever happens to its bytes.
func TestOwnIndexes(t *testing.T) {
	m, a, b := pair(t, 4)
	a.Add([]api.Buf{{Addr: 2, Len: 20}})
	m.Put(66, 2, 777)
	a.Add([]api.Buf{{Addr: 3, Len: 30}})
	if v, _ := m.Get(66, 2); v != 2 {
		t.Errorf("the driver's index is %d", v)
	}
	for k := range 2 {
		if head, _, ok, _ := b.Pop(); head != k || !ok {
			t.Error(head, ok)
		}
	}
	b.Push(0, 0)
	m.Put(78, 2, 777)
	m.Write(0, make([]byte, 64)) // the driver knows its chains without their bytes
	b.Push(1, 0)
	if v, _ := m.Get(78, 2); v != 2 {
		t.Errorf("the device's index is %d", v)
	}
	for k := range 2 {
		if head, _, ok, e := a.Used(); head != k || !ok || e != api.OK {
			t.Error(head, ok, e)
		}
	}
}

// TestRoundAndRound: indexes go round at 2^16, nothing is lost, and the order stays.
func TestRoundAndRound(t *testing.T) {
	for _, q := range []int{1, 2, 8} {
		r := rand.New(rand.NewSource(int64(q)))
		_, a, b := pair(t, q)
		type out struct{ head, n, bufs int }
		var added, popped, pushed []out
		for range 300000 {
			switch r.Intn(4) {
			case 0:
				l := make([]api.Buf, 1+r.Intn(3))
				for k := range l {
					l[k] = api.Buf{Addr: r.Intn(1 << 32), Len: 1 + r.Intn(1<<16), Write: true}
				}
				free := a.Free()
				head, e := a.Add(l)
				if (e == api.OK) != (len(l) <= free) {
					t.Fatal(e, free, len(l))
				}
				if e == api.OK {
					added = append(added, out{head, l[0].Len, len(l)})
				}
			case 1:
				head, l, ok, e := b.Pop()
				if ok != (len(added) > 0) || e != api.OK {
					t.Fatal(ok, e)
				}
				if ok {
					if (out{head, l[0].Len, len(l)}) != added[0] {
						t.Fatal(head, l, added[0])
					}
					popped = append(popped, added[0])
					added = added[1:]
				}
			case 2:
				if len(popped) > 0 {
					k := r.Intn(len(popped))
					b.Push(popped[k].head, popped[k].n)
					pushed = append(pushed, popped[k])
					popped = slices.Delete(popped, k, k+1)
				}
			case 3:
				head, n, ok, e := a.Used()
				if ok != (len(pushed) > 0) || e != api.OK {
					t.Fatal(ok, e)
				}
				if ok {
					if head != pushed[0].head || n != pushed[0].n {
						t.Fatal(head, n, pushed[0])
					}
					pushed = pushed[1:]
				}
			}
			sum := a.Free()
			for _, l := range [][]out{added, popped, pushed} {
				for _, o := range l {
					sum += o.bufs
				}
			}
			if sum != q {
				t.Fatalf("%d descriptors of %d", sum, q)
			}
		}
	}
}

// TestAnyBytes: whatever the memory holds, no call panics, and what is popped is valid.
func TestAnyBytes(t *testing.T) {
	r := rand.New(rand.NewSource(3))
	for range 3000 {
		q := 1 << r.Intn(5)
		m, a, b := pair(t, q)
		for range 30 {
			switch r.Intn(6) {
			case 0:
				m.Put(r.Intn(m.Len()), 1, uint64(r.Intn(5)))
			case 1:
				m.Put(r.Intn(m.Len()), 1, r.Uint64())
			case 2:
				a.Add([]api.Buf{{Addr: r.Intn(99), Len: 1 + r.Intn(99), Write: r.Intn(2) > 0}})
			case 3:
				if _, l, ok, _ := b.Pop(); ok && (len(l) == 0 || len(l) > q || l[0].Len < 1 || l[0].Addr < 0) {
					t.Fatal(l)
				}
			case 4:
				b.Push(r.Intn(q), r.Intn(3))
			case 5:
				a.Used()
			}
		}
		if a.Free() < 0 || a.Free() > q {
			t.Fatal(a.Free())
		}
	}
}

// TestNothingIsKept: a list that was handed in may be changed afterwards.
func TestNothingIsKept(t *testing.T) {
	_, a, b := pair(t, 4)
	l := []api.Buf{{Addr: 1, Len: 10, Write: true}}
	a.Add(l)
	l[0] = api.Buf{Addr: 7, Len: 70}
	if _, got, _, _ := b.Pop(); !slices.Equal(got, []api.Buf{{Addr: 1, Len: 10, Write: true}}) {
		t.Error(got)
	}
	b.Push(0, 10)
	if _, n, ok, e := a.Used(); n != 10 || !ok || e != api.OK {
		t.Error(n, ok, e)
	}
}

// TestIndexesGoRound: past 2^16 both sides still agree.
func TestIndexesGoRound(t *testing.T) {
	m, a, b := pair(t, 2)
	for k := range 1<<16 + 5 {
		a.Add([]api.Buf{{Addr: k, Len: 9, Write: true}})
		head, l, ok, e := b.Pop()
		if !ok || e != api.OK || l[0].Addr != k {
			t.Fatal(k, l, ok, e)
		}
		b.Push(head, 9)
		if _, n, ok, e := a.Used(); n != 9 || !ok || e != api.OK {
			t.Fatal(k, n, ok, e)
		}
	}
	if s := read(m, 34, 2) + read(m, 42, 2); s != "05000500" {
		t.Error(s)
	}
}

// TestAheadOfThoseInUse: chains that were given back are no longer in use.
func TestAheadOfThoseInUse(t *testing.T) {
	m, a, b := pair(t, 4)
	a.Add([]api.Buf{{Addr: 4, Len: 40}})
	b.Push(0, 0)
	a.Used()
	a.Add([]api.Buf{{Addr: 4, Len: 40}})
	b.Push(0, 0)
	m.Put(78, 2, 3) // it says that two more were used, and one is in use
	if head, _, ok, e := a.Used(); head != 0 || ok || e != api.ErrForm {
		t.Error(head, ok, e)
	}
}

// TestUnmade: sides that nobody made are broken ones.
func TestUnmade(t *testing.T) {
	var a ring.Driver
	var b ring.Device
	_, e := a.Add([]api.Buf{{Len: 1}})
	_, _, _, f := a.Used()
	_, _, _, g := b.Pop()
	if h := b.Push(0, 0); e != api.ErrState || f != api.ErrState || g != api.ErrState || h != api.ErrState || a.Free() != 0 {
		t.Error(e, f, g, h)
	}
}
