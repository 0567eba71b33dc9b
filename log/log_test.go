package log_test

import (
	"bytes"
	"math/rand"
	"slices"
	"strings"
	"testing"

	"kiosk/api"
	"kiosk/disk"
	"kiosk/log"
)

const maxSize = api.MaxSectors * api.Sector / 4

func blank() *disk.Disk {
	d, _ := disk.New(make([]byte, api.MaxSectors*api.Sector))
	return d
}

func open(t *testing.T, d *disk.Disk) *log.Log {
	t.Helper()
	l, e := log.Open(d)
	if e != api.OK {
		t.Fatal(e)
	}
	return l
}

// after is the disk after a crash.
func after(d *disk.Disk, picks ...int) *disk.Disk {
	n, _ := disk.New(d.Crash(picks))
	return n
}

func must(t *testing.T, l ...api.Errno) {
	t.Helper()
	for _, e := range l {
		if e != api.OK {
			t.Fatal(e)
		}
	}
}

func holds(t *testing.T, l *log.Log, want ...string) {
	t.Helper()
	if got := l.All(); !slices.Equal(got, want) {
		t.Fatalf("%.200q, not %.200q", got, want)
	}
}

func TestOpen(t *testing.T) {
	for _, n := range []int{1, api.MaxSectors - 1} {
		d, _ := disk.New(make([]byte, n*api.Sector))
		if l, e := log.Open(d); l != nil || e != api.ErrForm {
			t.Errorf("%d sectors: %v", n, e)
		}
	}
	if l, e := log.Open(nil); l != nil || e != api.ErrForm {
		t.Error(e)
	}
	d := blank()
	d.Off(0)
	if l, e := log.Open(d); l != nil || e != api.ErrPower {
		t.Error(e)
	}
	holds(t, open(t, blank()))
}

func TestAppend(t *testing.T) {
	d := blank()
	l := open(t, d)
	big := strings.Repeat("b", api.MaxRecord)
	all := []string{"a", "", strings.Repeat("x", 47), strings.Repeat("y", 48), strings.Repeat("z", 49), big, "\x00\xff", "a"}
	for k, s := range all {
		must(t, l.Append(s))
		holds(t, l, all[:k+1]...)
	}
	if e := l.Append(big + "b"); e != api.ErrForm {
		t.Error(e)
	}
	holds(t, l, all...)
	holds(t, open(t, d), all...) // without a crash nothing is lost
	l = open(t, d)
	must(t, l.Append("last"), l.Sync())
	d = after(d)
	holds(t, open(t, d), append(all, "last")...)
	holds(t, open(t, d), append(all, "last")...)
}

func TestFull(t *testing.T) {
	l := open(t, blank())
	want := 0
	for size := 0; size+128 <= maxSize; size += 128 {
		must(t, l.Append(""))
		want++
	}
	if e := l.Append(""); e != api.ErrFull || len(l.All()) != want || want != 512 {
		t.Error(e, len(l.All()), want)
	}
	if e := l.Append(strings.Repeat("x", api.MaxRecord+1)); e != api.ErrForm {
		t.Error(e)
	}
	big := strings.Repeat("b", api.MaxRecord)
	rest := strings.Repeat("r", maxSize-3*(api.MaxRecord+128)-128)
	d := blank()
	l = open(t, d)
	must(t, l.Reset([]string{big, big, big}))
	if e := l.Append(rest + "r"); e != api.ErrFull {
		t.Error(e)
	}
	must(t, l.Append(rest), l.Sync())
	if e := l.Append(""); e != api.ErrFull {
		t.Error(e)
	}
	d = after(d)
	l = open(t, d)
	holds(t, l, big, big, big, rest)
	full := []string{rest, big, big, big}
	for _, c := range []struct {
		l []string
		e api.Errno
	}{{append(full, ""), api.ErrFull}, {[]string{rest + "r", big, big, big}, api.ErrFull}, {[]string{"", big + "b"}, api.ErrForm}, {[]string{big, big, big, big, big, big + "b"}, api.ErrForm}, {make([]string, 513), api.ErrFull}, {make([]string, 512), api.OK}, {full, api.OK}} {
		was := l.All()
		e := l.Reset(c.l)
		if e != c.e {
			t.Errorf("%d records: %v", len(c.l), e)
		}
		if e == api.OK {
			was = c.l
		}
		holds(t, l, was...)
	}
}

func TestReset(t *testing.T) {
	d := blank()
	l := open(t, d)
	must(t, l.Append("x"), l.Append("y"), l.Reset([]string{"a", "", "c"}))
	d = after(d)
	holds(t, open(t, d), "a", "", "c")
	l = open(t, d)
	must(t, l.Append("d"), l.Sync(), l.Reset(nil))
	holds(t, l)
	holds(t, open(t, after(d)))
	// Again and again, in one life of the log: what an earlier Reset left is never seen.
	d = blank()
	l = open(t, d)
	for k := range 40 {
		list := slices.Repeat([]string{"same"}, 40-k)
		must(t, l.Reset(list), l.Append("more"), l.Sync())
		holds(t, open(t, after(copyOf(d))), append(list, "more")...)
	}
}

// copyOf makes a disk with what d has: it is read sector by sector.
func copyOf(d *disk.Disk) *disk.Disk {
	var b []byte
	for n := range d.Sectors() {
		d.Read(n)
		_, s, _ := d.Complete(0)
		b = append(b, s...)
	}
	c, _ := disk.New(b)
	return c
}

func TestAfterAnError(t *testing.T) {
	for n := 1; n < 12; n++ {
		d := blank()
		l := open(t, d)
		must(t, l.Append("a"), l.Append("b"))
		d.Off(n)
		want := l.All()
		for {
			e := l.Append("cc")
			if e == api.ErrPower {
				break
			}
			must(t, e)
			want = append(want, "cc")
		}
		for _, e := range []api.Errno{l.Append("x"), l.Append(strings.Repeat("x", api.MaxRecord+1)), l.Sync(), l.Reset(nil), l.Reset([]string{strings.Repeat("x", api.MaxRecord+1)})} {
			if e != api.ErrPower {
				t.Error(n, e)
			}
		}
		holds(t, l, want...)
	}
	for n := 1; n < 9; n++ {
		d := blank()
		l := open(t, d)
		must(t, l.Append("a"))
		d.Off(n)
		if e := l.Reset([]string{"b", "c"}); e != api.ErrPower && n < 8 {
			t.Error(n, e)
		} else if e == api.ErrPower {
			holds(t, l, "a")
		}
	}
	d := blank()
	l := open(t, d)
	must(t, l.Append("a"))
	d.Off(2)
	if e := l.Sync(); e != api.ErrPower {
		t.Error(e)
	}
	holds(t, l, "a")
	if e := l.Append("b"); e != api.ErrPower {
		t.Error(e)
	}
}

// TestLostBetween: a record that survived behind one that was lost does not come back behind the same one, written again.
func TestLostBetween(t *testing.T) {
	for _, opens := range []int{1, 2, 3} {
		d := blank()
		l := open(t, d)
		must(t, l.Append("zero"), l.Sync(), l.Append("a"), l.Append("b"), l.Append("c"))
		d = after(d, 0, 1, 1)
		for range opens {
			l = open(t, d)
			holds(t, l, "zero")
		}
		must(t, l.Append("a"), l.Sync())
		d = after(d)
		holds(t, open(t, d), "zero", "a")
	}
	// The same with a Reset whose head was lost.
	d := blank()
	l := open(t, d)
	must(t, l.Append("zero"), l.Sync())
	d.Off(8) // 6 calls for the records, one for the flush
	if e := l.Reset([]string{"a", "b", "c"}); e != api.ErrPower {
		t.Fatal(e)
	}
	d = after(d, 0, 1, 1)
	l = open(t, d)
	holds(t, l, "zero")
	must(t, l.Reset([]string{"a"}))
	holds(t, open(t, after(d)), "a")
}

// TestOtherPending: a disk that has requests of others still serves the log.
func TestOtherPending(t *testing.T) {
	d := blank()
	d.Read(5)
	l := open(t, d)
	must(t, l.Append("a"), l.Sync())
	holds(t, open(t, d), "a")
	d = blank()
	for range api.MaxRequests {
		d.Read(5)
	}
	if l, e := log.Open(d); l != nil || e != api.ErrFull {
		t.Error(e)
	}
}

// TestFailedForGood: after an error of the disk, whatever it was, the power is as good as off.
func TestFailedForGood(t *testing.T) {
	for _, f := range []func(*log.Log) api.Errno{func(l *log.Log) api.Errno { return l.Append("b") }, (*log.Log).Sync, func(l *log.Log) api.Errno { return l.Reset([]string{"b"}) }} {
		d := blank()
		l := open(t, d)
		must(t, l.Append("a"))
		for range api.MaxRequests {
			d.Read(5)
		}
		if e := f(l); e != api.ErrFull {
			t.Error(e)
		}
		for range api.MaxRequests {
			d.Complete(0)
		}
		for _, e := range []api.Errno{l.Append("c"), l.Sync(), l.Reset(nil)} {
			if e != api.ErrPower {
				t.Error(e)
			}
		}
		holds(t, l, "a")
	}
	var l log.Log
	if l.Append("a") != api.ErrPower || l.Sync() != api.ErrPower || l.Reset(nil) != api.ErrPower || len(l.All()) != 0 {
		t.Error("a log that nobody opened")
	}
}

// TestForeignHeads: one head that no log has written is enough, but a first one that was torn is none of these.
func TestForeignHeads(t *testing.T) {
	d := blank()
	must(t, open(t, d).Append(""))
	first := d.Crash(nil)[:api.Sector]
	for n := range api.Sector - 1 {
		b := make([]byte, api.MaxSectors*api.Sector)
		copy(b, first[:n])
		torn, _ := disk.New(b)
		holds(t, open(t, torn))
		b[api.Sector+n] = 1
		other, _ := disk.New(b)
		if len(open(t, other).All()) == 0 {
			t.Errorf("byte %d of the second head", n)
		}
		b[api.Sector+n] = 0
		b[n] ^= 0x5a
		b[api.Sector-1] ^= 0x5a
		other, _ = disk.New(b)
		if len(open(t, other).All()) == 0 {
			t.Errorf("byte %d of the first head", n)
		}
	}
}

// TestForeign: any bytes can be opened, and what is appended is found again.
func TestForeign(t *testing.T) {
	r := rand.New(rand.NewSource(9))
	for k := range 20 {
		b := make([]byte, api.MaxSectors*api.Sector)
		if k < 10 {
			r.Read(b)
		} else {
			b[r.Intn(len(b))] = byte(1 + k)
		}
		d, _ := disk.New(b)
		l := open(t, d)
		if !bytes.Equal(d.Crash([]int{1, 1, 1, 1}), b) {
			t.Error("it is written to before anything is appended")
		}
		d, _ = disk.New(b)
		l = open(t, d)
		was := l.All()
		if k < 10 && len(was) == 0 {
			t.Error("an empty log among random bytes")
		}
		must(t, l.Append("mine"), l.Sync())
		holds(t, open(t, after(d)), append(was, "mine")...)
	}
}

func TestNothingIsShared(t *testing.T) {
	l := open(t, blank())
	list := []string{"a", "b"}
	must(t, l.Reset(list))
	list[0] = "X"
	l.All()[1] = "Y"
	_ = append(l.All(), "Z")
	must(t, l.Append("c"))
	holds(t, l, "a", "b", "c")
}

// TestPowerFailsAnywhere: whatever is done, wherever the power fails, and whatever survives, the log is one of those that it may be.
func TestPowerFailsAnywhere(t *testing.T) {
	r := rand.New(rand.NewSource(7))
	text := func() string {
		return strings.Repeat(string(rune('a'+r.Intn(3))), []int{0, 1, 2, 48, 49, 130, 500}[r.Intn(7)])
	}
	for range 500 {
		d := blank()
		may := [][]string{nil} // what may be found after a crash
		for range 8 {
			d.Off([]int{1 + r.Intn(12), 1 + r.Intn(60), 400}[r.Intn(3)])
			l, e := log.Open(d)
			if e == api.OK {
				now := l.All()
				if !slices.ContainsFunc(may, func(x []string) bool { return slices.Equal(x, now) }) {
					t.Fatalf("%.300q is none of %.900q", now, may)
				}
				may = [][]string{now}
				for range 30 {
					switch r.Intn(8) {
					default:
						s := text()
						e = l.Append(s)
						now = append(slices.Clone(now), s)
						may = append(may, now)
					case 0, 1:
						if e = l.Sync(); e == api.OK {
							may = [][]string{now}
						}
					case 2:
						var list []string
						for range r.Intn(4) {
							list = append(list, text())
						}
						now = list
						may = append(may, now)
						if e = l.Reset(list); e == api.OK {
							may = [][]string{now}
						}
					}
					if e != api.OK {
						break
					}
				}
			}
			if e == api.OK {
				continue // not a crash: it's opened anew
			}
			picks := make([]int, 40)
			for i := range picks {
				picks[i] = []int{0, 1, 1, r.Intn(66)}[r.Intn(4)]
			}
			d = after(d, picks...)
		}
	}
}
