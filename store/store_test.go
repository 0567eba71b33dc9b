package store_test

import (
	"fmt"
	"math/rand"
	"slices"
	"strings"
	"testing"

	"kiosk/api"
	"kiosk/broker"
	"kiosk/disk"
	"kiosk/log"
	"kiosk/same"
	"kiosk/store"
)

func blank() *disk.Disk {
	d, _ := disk.New(make([]byte, api.MaxSectors*api.Sector))
	return d
}

// after is the disk after a crash.
func after(d *disk.Disk, picks ...int) *disk.Disk {
	n, _ := disk.New(d.Crash(picks))
	return n
}

func open(t *testing.T, d *disk.Disk) *store.Store {
	t.Helper()
	s, e := store.Open(d)
	if e != api.OK {
		t.Fatal(e)
	}
	return s
}

func must(t *testing.T, l ...api.Errno) {
	t.Helper()
	for _, e := range l {
		if e != api.OK {
			t.Fatal(e)
		}
	}
}

func holds(t *testing.T, s *store.Store, want api.Broker) {
	t.Helper()
	if got := s.Broker(); !same.Broker(got, want) {
		t.Fatalf("%.500s, not %.500s", fmt.Sprint(got), fmt.Sprint(want))
	}
}

func wide(k, n int) string { return fmt.Sprintf("%02d", k) + strings.Repeat("x", n-2) }

// most is the greatest state.
func most() api.Broker {
	var b api.Broker
	m := api.Message{Topic: wide(0, 64), Payload: wide(0, 128), QoS: 2}
	for k := range api.MaxSessions {
		s := api.Session{Client: wide(k, 46)}
		for k := range api.MaxSubs {
			s.Subs = append(s.Subs, api.Wish{Filter: wide(k, 64), QoS: 2})
			s.In = append(s.In, k+1)
		}
		for k := range api.MaxWindowQ {
			s.Out.Flight = append(s.Out.Flight, api.Flight{ID: k + 1, Message: m})
		}
		s.Out.Queue = slices.Repeat([]api.Message{m}, api.MaxQueue)
		b.Sessions = append(b.Sessions, s)
	}
	for k := range api.MaxKept {
		b.Kept = append(b.Kept, api.Message{Topic: wide(k, 64), Payload: wide(0, 128), Retain: true})
	}
	return b
}

// altered changes some of a broker; it has open links now and then.
func altered(r *rand.Rand, b api.Broker) api.Broker {
	b, _ = broker.Durable(b)
	for link := range 1 + r.Intn(4) {
		k := r.Intn(api.MaxSessions)
		name := fmt.Sprint("c", k)
		if len(b.Sessions) == api.MaxSessions {
			name = b.Sessions[k].Client
		}
		at := slices.IndexFunc(b.Sessions, func(s api.Session) bool { return s.Client == name })
		switch {
		case at < 0:
			b.Sessions = append(b.Sessions, api.Session{Client: name, Link: r.Intn(2) * (link + 1)})
			slices.SortFunc(b.Sessions, func(a, b api.Session) int { return strings.Compare(a.Client, b.Client) })
		case r.Intn(6) == 0:
			b.Sessions = slices.Delete(b.Sessions, at, at+1)
		default:
			s := &b.Sessions[at]
			s.Out.Last = r.Intn(65536)
			if len(s.Out.Queue) < api.MaxQueue {
				s.Out.Queue = append(s.Out.Queue, api.Message{Topic: "t", Payload: strings.Repeat("x", r.Intn(120)), QoS: 1})
			}
			if r.Intn(4) == 0 {
				s.Clean, s.Link, s.Keep = true, link+1, 9
			}
		}
	}
	if r.Intn(2) == 0 {
		b.Kept = nil
		for k := range r.Intn(api.MaxKept) {
			b.Kept = append(b.Kept, api.Message{Topic: fmt.Sprintf("k%02d", k), Payload: fmt.Sprint(r.Intn(3)), Retain: true})
		}
	}
	return b
}

func durable(b api.Broker) api.Broker {
	d, _ := broker.Durable(b)
	return d
}

func TestOpen(t *testing.T) {
	holds(t, open(t, blank()), api.Broker{})
	small, _ := disk.New(make([]byte, api.Sector))
	for _, d := range []*disk.Disk{nil, small} {
		if s, e := store.Open(d); s != nil || e != api.ErrForm {
			t.Error(e)
		}
	}
	d := blank()
	d.Off(0)
	if s, e := store.Open(d); s != nil || e != api.ErrPower {
		t.Error(e)
	}
}

// TestForeign: what no store has written is refused.
func TestForeign(t *testing.T) {
	r := rand.New(rand.NewSource(1))
	refused := func(l []string) {
		t.Helper()
		d := blank()
		g, _ := log.Open(d)
		must(t, g.Reset(l))
		if s, e := store.Open(d); s != nil || e != api.ErrForm {
			t.Fatalf("%.300q: %v", l, e)
		}
	}
	refused([]string{""})
	refused([]string{"hello, this is no broker"})
	refused([]string{"c\x00\x00\x00\x00"})
	b := make([]byte, api.MaxSectors*api.Sector)
	r.Read(b)
	d, _ := disk.New(b)
	if s, e := store.Open(d); s != nil || e != api.ErrForm {
		t.Error("random bytes:", e)
	}
	// What a store has written, but not so.
	d = blank()
	s := open(t, d)
	must(t, s.Save(most()))
	for range 5 {
		must(t, s.Save(altered(r, s.Broker())))
	}
	g, _ := log.Open(d)
	whole := g.All()
	if len(whole) < 5 {
		t.Fatal(len(whole))
	}
	for range 150 {
		l := slices.Clone(whole)
		k := r.Intn(len(l))
		switch r.Intn(5) {
		case 0:
			x := []byte(l[k])
			x[r.Intn(len(x))] ^= 1 << r.Intn(8)
			l[k] = string(x)
		case 1:
			l[k] = l[k][:r.Intn(len(l[k]))]
		case 2:
			l = slices.Insert(l, k, l[k])
		case 3:
			l = slices.Delete(l, 0, 1+r.Intn(len(l)-1))
		case 4:
			l[k] = "x" + l[k][1:]
		}
		refused(l)
	}
	must(t, g.Reset(whole))
	holds(t, open(t, d), s.Broker())
}

func TestSave(t *testing.T) {
	d := blank()
	s := open(t, d)
	b := api.Broker{
		Links:    []int{9},
		Sessions: []api.Session{{Client: "a", Clean: true, Link: 1}, {Client: "b", Link: 2, Keep: 7, Idle: 3, Will: api.Will{Is: true, Topic: "w"}, Subs: []api.Wish{{Filter: "#", QoS: 1}}}, {Client: "c", In: []int{5}}},
		Kept:     []api.Message{{Topic: "k", Payload: "p", Retain: true}},
	}
	want := api.Broker{Sessions: []api.Session{{Client: "b", Subs: []api.Wish{{Filter: "#", QoS: 1}}}, {Client: "c", In: []int{5}}}, Kept: b.Kept}
	must(t, s.Save(b))
	holds(t, s, want)
	b.Sessions[1].Subs[0].QoS = 2
	got := s.Broker()
	got.Sessions[0].Subs[0].QoS = 0
	got.Kept[0].Payload = "X"
	holds(t, s, want)
	b.Sessions[1].Subs[0].QoS = 1
	for range 2 {
		d = after(d)
		s = open(t, d)
		holds(t, s, want)
		s = open(t, d)
		holds(t, s, want)
	}
	for i, f := range []func(*api.Broker){func(b *api.Broker) { b.Links = []int{0} }, func(b *api.Broker) { b.Sessions[2].Clean = true }, func(b *api.Broker) { b.Kept[0].Payload = "" }} {
		bad := api.Broker{Links: b.Links, Sessions: slices.Clone(b.Sessions), Kept: slices.Clone(b.Kept)}
		f(&bad)
		if e := s.Save(bad); e != api.ErrForm {
			t.Errorf("%d: %v", i, e)
		}
		holds(t, s, want)
	}
	must(t, s.Save(api.Broker{}))
	holds(t, s, api.Broker{})
	holds(t, open(t, after(d)), api.Broker{})
}

// TestMost: the greatest state can be stored, again and again, and also all of it at once anew.
func TestMost(t *testing.T) {
	d := blank()
	s := open(t, d)
	b := most()
	for k := range 12 {
		for i := range b.Sessions {
			b.Sessions[i].Out.Last = k
		}
		must(t, s.Save(b))
		holds(t, s, b)
		holds(t, open(t, d), b)
		s = open(t, d)
		must(t, s.Save(api.Broker{Kept: b.Kept[:k]}))
		must(t, s.Save(b))
	}
	holds(t, open(t, after(d)), b)
}

// TestNeverFull: the log fills, and the state is stored anew; a small change costs little, however great the state is.
func TestNeverFull(t *testing.T) {
	d := blank()
	s := open(t, d)
	b := most()
	must(t, s.Save(b))
	cheap := 0
	for k := range 600 {
		b.Sessions[k%8].Out.Last = k
		e := s.Save(b)
		must(t, e)
		b.Kept[3].Payload = fmt.Sprint(k)
		must(t, s.Save(b))
		if k%50 == 0 {
			holds(t, open(t, d), b)
			s = open(t, d)
		}
	}
	holds(t, s, b)
	for k := range 60 {
		c, _ := disk.New(d.Crash(nil))
		d = c
		s = open(t, d)
		b.Kept[3].Payload = fmt.Sprint("more", k)
		d.Off(40)
		if e := s.Save(b); e == api.OK {
			cheap++
		} else {
			b.Kept[3].Payload = s.Broker().Kept[3].Payload
		}
	}
	if cheap < 50 {
		t.Errorf("%d of 60 small changes were stored by few requests", cheap)
	}
}

func TestAfterAnError(t *testing.T) {
	for n := range 12 {
		d := blank()
		s := open(t, d)
		must(t, s.Save(api.Broker{Sessions: []api.Session{{Client: "a"}}}))
		was := s.Broker()
		d.Off(n)
		e := s.Save(api.Broker{Sessions: []api.Session{{Client: "b"}}})
		if n < 5 && e != api.ErrPower {
			t.Fatal(n, e)
		}
		if e == api.OK {
			continue
		}
		holds(t, s, was)
		for _, b := range []api.Broker{was, {}, {Links: []int{-1}}} {
			if e := s.Save(b); e != api.ErrPower {
				t.Error(n, e)
			}
		}
		holds(t, s, was)
	}
	d := blank()
	s := open(t, d)
	d.Off(0)
	if e := s.Save(api.Broker{}); e != api.ErrPower {
		t.Error("what is there already:", e)
	}
	d = blank()
	s = open(t, d)
	d.Off(0)
	if e := s.Save(api.Broker{Links: []int{0}}); e != api.ErrForm {
		t.Error("what isn't valid:", e)
	}
}

// TestPowerFailsAnywhere: after a crash there is the last broker that was saved, or the one that was being saved.
func TestPowerFailsAnywhere(t *testing.T) {
	r := rand.New(rand.NewSource(5))
	for range 100 {
		d := blank()
		may := []api.Broker{{}}
		if r.Intn(2) == 0 {
			s := open(t, d)
			must(t, s.Save(most()))
			may = []api.Broker{most()}
		}
		for range 8 {
			d.Off([]int{1 + r.Intn(20), 1 + r.Intn(300), 2000}[r.Intn(3)])
			s, e := store.Open(d)
			for e == api.OK {
				now := s.Broker()
				if !slices.ContainsFunc(may, func(b api.Broker) bool { return same.Broker(b, now) }) {
					t.Fatal("another broker")
				}
				may = []api.Broker{now}
				next := altered(r, now)
				if r.Intn(12) == 0 {
					next = []api.Broker{most(), {}}[r.Intn(2)]
				}
				if e = s.Save(next); e == api.OK {
					may = []api.Broker{durable(next)}
				} else {
					may = append(may, durable(next))
				}
			}
			if e != api.ErrPower {
				t.Fatal(e)
			}
			picks := make([]int, 900)
			for i := range picks {
				picks[i] = []int{0, 1, 1, r.Intn(66)}[r.Intn(4)]
			}
			d = after(d, picks...)
		}
	}
}
