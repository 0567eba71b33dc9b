package disk_test

import (
	"bytes"
	"math/rand"
	"slices"
	"testing"

	"kiosk/api"
	"kiosk/disk"
)

func sector(fill byte) []byte { return bytes.Repeat([]byte{fill}, api.Sector) }

func made(t *testing.T, sectors int) *disk.Disk {
	t.Helper()
	d, e := disk.New(make([]byte, sectors*api.Sector))
	if e != api.OK {
		t.Fatal(e)
	}
	return d
}

// complete completes all requests, and returns what the last one read.
func complete(t *testing.T, d *disk.Disk) []byte {
	t.Helper()
	var last []byte
	for range d.Pending() {
		_, b, e := d.Complete(0)
		if e != api.OK {
			t.Fatal(e)
		}
		last = b
	}
	return last
}

func TestNew(t *testing.T) {
	for _, n := range []int{0, 1, api.Sector - 1, api.Sector + 1, (api.MaxSectors + 1) * api.Sector, api.MaxSectors*api.Sector + 1} {
		if d, e := disk.New(make([]byte, n)); d != nil || e != api.ErrForm {
			t.Errorf("%d bytes: %v", n, e)
		}
	}
	for _, n := range []int{1, 3, api.MaxSectors} {
		if d := made(t, n); d.Sectors() != n {
			t.Errorf("%d sectors, not %d", d.Sectors(), n)
		}
	}
	b := append(sector(1), sector(2)...)
	d, _ := disk.New(b)
	b[0] = 99
	d.Read(0)
	if got := complete(t, d); !bytes.Equal(got, sector(1)) {
		t.Errorf("%x", got)
	}
	if got := d.Crash(nil); !bytes.Equal(got, append(sector(1), sector(2)...)) {
		t.Error("not durable")
	}
}

func TestRequests(t *testing.T) {
	d := made(t, 3)
	ask := []func() (int, api.Errno){
		func() (int, api.Errno) { return d.Write(1, sector(7)) },
		func() (int, api.Errno) { return d.Read(1) },
		func() (int, api.Errno) { return d.Read(0) },
		d.Flush,
	}
	for k, f := range ask {
		if id, e := f(); id != k+1 || e != api.OK {
			t.Errorf("request %d: %d, %v", k+1, id, e)
		}
	}
	if l := d.Pending(); !slices.Equal(l, []int{1, 2, 3, 4}) {
		t.Error(l)
	}
	if id, b, e := d.Complete(1); id != 2 || !bytes.Equal(b, sector(0)) || e != api.OK {
		t.Errorf("the read saw a write that isn't completed: %d, %x, %v", id, b, e)
	}
	if id, b, e := d.Complete(0); id != 1 || b != nil || e != api.OK {
		t.Error(id, b, e)
	}
	if id, b, e := d.Complete(1); id != 4 || b != nil || e != api.OK {
		t.Error(id, b, e)
	}
	if l := d.Pending(); !slices.Equal(l, []int{3}) {
		t.Error(l)
	}
	if id, e := d.Read(1); id != 5 || e != api.OK {
		t.Error(id, e)
	}
	if id, b, e := d.Complete(1); id != 5 || !bytes.Equal(b, sector(7)) || e != api.OK {
		t.Error(id, b, e)
	}
	for _, k := range []int{-1, 1, 2, 1 << 62} {
		if id, b, e := d.Complete(k); id != 0 || b != nil || e != api.ErrNone {
			t.Error(k, id, b, e)
		}
	}
}

func TestRequestsRefused(t *testing.T) {
	d := made(t, 3)
	refused := func(want api.Errno, l ...func() (int, api.Errno)) {
		t.Helper()
		for k, f := range l {
			if id, e := f(); id != 0 || e != want {
				t.Errorf("%d: %d, %v", k, id, e)
			}
		}
	}
	bad := []func() (int, api.Errno){
		func() (int, api.Errno) { return d.Write(-1, sector(1)) },
		func() (int, api.Errno) { return d.Write(3, sector(1)) },
		func() (int, api.Errno) { return d.Write(0, sector(1)[1:]) },
		func() (int, api.Errno) { return d.Write(0, append(sector(1), 1)) },
		func() (int, api.Errno) { return d.Write(0, nil) },
		func() (int, api.Errno) { return d.Read(-1) },
		func() (int, api.Errno) { return d.Read(3) },
	}
	good := []func() (int, api.Errno){
		func() (int, api.Errno) { return d.Write(2, sector(1)) },
		func() (int, api.Errno) { return d.Read(2) },
		d.Flush,
	}
	refused(api.ErrForm, bad...)
	for k := range api.MaxRequests {
		if id, e := good[k%3](); id != k+1 || e != api.OK {
			t.Fatal(k, id, e)
		}
	}
	refused(api.ErrForm, bad...)
	refused(api.ErrFull, good...)
	d.Off(0)
	refused(api.ErrPower, append(bad, good...)...)
	for _, k := range []int{0, -1, 99} {
		if id, b, e := d.Complete(k); id != 0 || b != nil || e != api.ErrPower {
			t.Error(k, id, b, e)
		}
	}
	if len(d.Pending()) != api.MaxRequests {
		t.Error(d.Pending())
	}
}

// TestOff: every call counts, whatever it returns.
func TestOff(t *testing.T) {
	calls := func(d *disk.Disk) []api.Errno {
		var l []api.Errno
		_, e := d.Write(9, nil)
		l = append(l, e)
		_, e = d.Read(9)
		l = append(l, e)
		_, _, e = d.Complete(5)
		l = append(l, e)
		_, e = d.Flush()
		l = append(l, e)
		_, _, e = d.Complete(0)
		l = append(l, e)
		_, e = d.Read(0)
		return append(l, e)
	}
	on := []api.Errno{api.ErrForm, api.ErrForm, api.ErrNone, api.OK, api.OK, api.OK}
	for _, n := range []int{-1 << 63, -1, 0, 1, 2, 3, 4, 5, 6, 7, 1 << 62} {
		d := made(t, 1)
		d.Off(n)
		want := slices.Clone(on)
		for k := max(n, 1) - 1; k < len(want); k++ {
			want[k] = api.ErrPower
		}
		if l := calls(d); !slices.Equal(l, want) {
			t.Errorf("Off(%d): %v", n, l)
		}
	}
	d := made(t, 1)
	d.Off(2)
	d.Off(4)
	if l := calls(d); !slices.Equal(l, []api.Errno{api.ErrForm, api.ErrForm, api.ErrNone, api.ErrPower, api.ErrPower, api.ErrPower}) {
		t.Error("a later Off doesn't replace:", l)
	}
	d.Off(100)
	if _, e := d.Flush(); e != api.ErrPower {
		t.Error("the power came back")
	}
	d = made(t, 1)
	d.Off(100)
	d.Off(0)
	if _, e := d.Flush(); e != api.ErrPower {
		t.Error(e)
	}
	d = made(t, 1)
	d.Pending()
	d.Off(1)
	d.Pending()
	d.Sectors()
	d.Off(2)
	if _, e := d.Flush(); e != api.OK {
		t.Error("what doesn't count was counted:", e)
	}
}

func TestCrash(t *testing.T) {
	base := append(append(sector(1), sector(2)...), append(sector(3), sector(4)...)...)
	mix := func(n int, a, b byte) []byte { return append(sector(a)[:n:n], sector(b)[n:]...) }
	for i, c := range []struct {
		picks []int
		want  [][]byte // of the sectors 1 and 3
	}{
		{nil, [][]byte{sector(2), sector(4)}},
		{[]int{1, 1, 5}, [][]byte{sector(12), sector(14)}},
		{[]int{0, 1}, [][]byte{sector(2), sector(14)}},
		{[]int{1}, [][]byte{sector(12), sector(4)}},
		{[]int{2, 65}, [][]byte{mix(1, 12, 2), sector(14)}},
		{[]int{34, 64}, [][]byte{mix(33, 12, 2), mix(63, 14, 4)}},
		{[]int{66, 67}, [][]byte{sector(2), sector(14)}},
		{[]int{-1, -66}, [][]byte{sector(12), sector(4)}},
		{[]int{-2, -64}, [][]byte{mix(63, 12, 2), mix(1, 14, 4)}},
	} {
		d, _ := disk.New(base)
		d.Write(3, sector(14))
		d.Write(1, sector(99))
		d.Write(1, sector(12))
		complete(t, d)
		d.Write(0, sector(77))
		want := append(append(sector(1), c.want[0]...), append(sector(3), c.want[1]...)...)
		for range 2 {
			if b := d.Crash(c.picks); !bytes.Equal(b, want) {
				t.Errorf("%d: %x", i, b)
			}
		}
		if _, e := d.Flush(); e != api.ErrPower {
			t.Error("the power is on")
		}
	}
}

func TestFlush(t *testing.T) {
	d := made(t, 3)
	d.Write(0, sector(1)) // 1: completed before the flush
	d.Write(1, sector(2)) // 2: completed behind it
	d.Flush()             // 3
	d.Write(2, sector(3)) // 4: asked for behind it, but completed before
	for _, k := range []int{0, 2, 1, 0} {
		if _, _, e := d.Complete(k); e != api.OK {
			t.Fatal(e)
		}
	}
	if b := d.Crash([]int{0, 1, 1}); !bytes.Equal(b, slices.Concat(sector(1), sector(0), sector(3))) {
		t.Errorf("%x", b)
	}
	d = made(t, 1)
	d.Write(0, sector(1))
	complete(t, d)
	d.Flush()
	if b := d.Crash(nil); !bytes.Equal(b, sector(0)) {
		t.Error("a flush that isn't completed made something durable")
	}
	d = made(t, 2)
	d.Write(1, sector(1))
	d.Flush()
	complete(t, d)
	d.Write(1, sector(1)) // the same once more, so it takes a pick
	d.Write(0, sector(2))
	complete(t, d)
	if b := d.Crash([]int{2, 1}); !bytes.Equal(b, slices.Concat(append([]byte{2}, sector(0)[1:]...), sector(1))) {
		t.Errorf("%x", b)
	}
}

// TestNothingIsShared: neither with what is handed in nor with what is handed out.
func TestNothingIsShared(t *testing.T) {
	d := made(t, 2)
	b := sector(5)
	d.Write(0, b)
	b[0] = 99
	complete(t, d)
	d.Read(0)
	got := complete(t, d)
	got[1] = 98
	_ = append(got, 97)
	l := d.Pending()
	_ = append(l, 5)
	picks := []int{1, 7}
	x := d.Crash(picks)
	if !bytes.Equal(x, slices.Concat(sector(5), sector(0))) || !slices.Equal(picks, []int{1, 7}) {
		t.Errorf("%x, %v", x, picks)
	}
	x[3] = 55
	if y := d.Crash([]int{1}); !bytes.Equal(y, slices.Concat(sector(5), sector(0))) {
		t.Errorf("%x", y)
	}
}

// TestAgainstModel: what was flushed survives every crash, and what is read is what was written last.
func TestAgainstModel(t *testing.T) {
	r := rand.New(rand.NewSource(4))
	type ask struct {
		id, kind, n int
		b           []byte
	}
	for range 300 {
		const sectors = 5
		d := made(t, sectors)
		now, kept, dirty := make([][]byte, sectors), make([][]byte, sectors), make([]bool, sectors)
		for n := range sectors {
			now[n], kept[n] = sector(0), sector(0)
		}
		var pending []ask
		last := 0
		for range 200 {
			a := ask{kind: r.Intn(3), n: r.Intn(sectors), b: make([]byte, api.Sector)}
			r.Read(a.b)
			if r.Intn(2) == 0 {
				var id int
				var e api.Errno
				switch a.kind {
				case 0:
					id, e = d.Write(a.n, a.b)
				case 1:
					id, e = d.Read(a.n)
				case 2:
					id, e = d.Flush()
				}
				if (e == api.OK) != (len(pending) < api.MaxRequests) {
					t.Fatal(e)
				}
				if e == api.OK {
					last++
					a.id = last
					pending = append(pending, a)
				}
				if id != a.id {
					t.Fatal(id, a.id)
				}
			} else if len(pending) > 0 {
				k := r.Intn(len(pending))
				a = pending[k]
				pending = slices.Delete(pending, k, k+1)
				id, b, e := d.Complete(k)
				if id != a.id || e != api.OK || a.kind != 1 && b != nil || a.kind == 1 && !bytes.Equal(b, now[a.n]) {
					t.Fatal(id, b, e)
				}
				switch a.kind {
				case 0:
					now[a.n], dirty[a.n] = a.b, true
				case 2:
					copy(kept, now)
					clear(dirty)
				}
			}
		}
		picks := []int{r.Intn(99), r.Intn(99) - 50, r.Intn(3)}
		left := picks
		var want []byte
		for n := range sectors {
			k := 0
			if dirty[n] {
				p := 0
				if len(left) > 0 {
					p, left = ((left[0]%66)+66)%66, left[1:]
				}
				k = []int{0, 64}[min(p, 1)]
				if p > 1 {
					k = p - 1
				}
			}
			want = append(append(want, now[n][:k]...), kept[n][k:]...)
		}
		if b := d.Crash(picks); !bytes.Equal(b, want) {
			t.Fatal("another content after the crash")
		}
	}
}
