package arp_test

import (
	"bytes"
	"fmt"
	"math/rand"
	"slices"
	"testing"

	"kiosk/api"
	"kiosk/arp"
)

func TestBytes(t *testing.T) {
	b, e := arp.Bytes(api.Arp{SrcMac: 0x010203040506, SrcIP: 0x0a0b0c0d, DstMac: 0xfffefdfcfbfa, DstIP: 0xf0f1f2f3})
	if s := fmt.Sprintf("%x", b); s != "0001080006040001"+"0102030405060a0b0c0d"+"fffefdfcfbfaf0f1f2f3" || e != api.OK {
		t.Error(s, e)
	}
	b, e = arp.Bytes(api.Arp{Reply: true, SrcMac: 1<<48 - 1, SrcIP: 1<<32 - 1})
	if s := fmt.Sprintf("%x", b); s != "0001080006040002"+"ffffffffffffffffffff"+"00000000000000000000" || e != api.OK {
		t.Error(s, e)
	}
	for _, a := range []api.Arp{{SrcMac: -1}, {SrcMac: 1 << 48}, {DstMac: -1}, {DstMac: 1 << 48}, {SrcIP: -1}, {SrcIP: 1 << 32}, {DstIP: -1}, {DstIP: 1 << 32}} {
		if b, e := arp.Bytes(a); b != nil || e != api.ErrForm {
			t.Errorf("%v: %x, %v", a, b, e)
		}
	}
}

func TestParse(t *testing.T) {
	whole := api.Arp{Reply: true, SrcMac: 0x010203040506, SrcIP: 0x0a0b0c0d, DstMac: 0xfffefdfcfbfa, DstIP: 0xf0f1f2f3}
	b, _ := arp.Bytes(whole)
	for _, n := range []int{0, 1, 27} {
		if a, e := arp.Parse(b[:n]); a != (api.Arp{}) || e != api.ErrCut {
			t.Errorf("%d bytes: %v, %v", n, a, e)
		}
	}
	for _, more := range []string{"", "x", "a padding of a frame"} {
		if a, e := arp.Parse(append(bytes.Clone(b), more...)); a != whole || e != api.OK {
			t.Errorf("%v, %v", a, e)
		}
	}
	for i := range 8 {
		for _, x := range []byte{1, 2, 0x80} {
			c := bytes.Clone(b)
			c[i] ^= x
			if a, e := arp.Parse(c); a != (api.Arp{}) || e != api.ErrForm {
				t.Errorf("%x: %v, %v", c, a, e)
			}
		}
	}
	b[7] = 1
	whole.Reply = false
	if a, e := arp.Parse(b); a != whole || e != api.OK {
		t.Errorf("%v, %v", a, e)
	}
	r := rand.New(rand.NewSource(1))
	for range 200 {
		a := api.Arp{Reply: r.Intn(2) > 0, SrcMac: r.Intn(1 << 48), SrcIP: r.Intn(1 << 32), DstMac: r.Intn(1 << 48), DstIP: r.Intn(1 << 32)}
		b, _ := arp.Bytes(a)
		if c, e := arp.Parse(b); c != a || e != api.OK {
			t.Fatalf("%v, not %v", c, a)
		}
	}
}

// full is a table of MaxArp elements with the IPs 10, 20, ..
func full() []api.Neighbour {
	var l []api.Neighbour
	for k := range api.MaxArp {
		l = append(l, api.Neighbour{IP: 10 * (k + 1), Mac: k, Age: 5})
	}
	return l
}

func TestLearn(t *testing.T) {
	var l []api.Neighbour
	learn := func(ip, mac int) {
		t.Helper()
		m, e := arp.Learn(l, ip, mac)
		if e != api.OK {
			t.Fatal(e)
		}
		l = m
	}
	learn(5, 50)
	learn(3, 30)
	l, _ = arp.Tick(l)
	learn(4, 40)
	learn(5, 51)
	if !slices.Equal(l, []api.Neighbour{{IP: 3, Mac: 30, Age: 1}, {IP: 4, Mac: 40}, {IP: 5, Mac: 51}}) {
		t.Error(l)
	}
	for _, c := range []struct {
		oldest []int // that have the age 9
		gone   int
		ip     int
	}{{[]int{3}, 3, 5}, {[]int{15}, 15, 5}, {[]int{4, 7}, 4, 999}, {nil, 0, 999}, {[]int{0, 15}, 0, 55}, {[]int{7}, 7, 0}} {
		l = full()
		for _, k := range c.oldest {
			l[k].Age = 9
		}
		was := slices.Clone(l)
		want := slices.Delete(slices.Clone(l), c.gone, c.gone+1)
		want = append(want, api.Neighbour{IP: c.ip, Mac: 77})
		slices.SortFunc(want, func(a, b api.Neighbour) int { return a.IP - b.IP })
		if got, e := arp.Learn(l, c.ip, 77); !slices.Equal(got, want) || e != api.OK {
			t.Errorf("%v: %v", c, got)
		}
		if !slices.Equal(l, was) {
			t.Error("the argument was changed")
		}
	}
	l = full()
	got, e := arp.Learn(l, 30, 1<<48-1)
	l[2] = api.Neighbour{IP: 30, Mac: 1<<48 - 1}
	if !slices.Equal(got, l) || e != api.OK {
		t.Error(got, e)
	}
}

func TestWrongTables(t *testing.T) {
	good := full()[:2]
	for i, l := range [][]api.Neighbour{
		append(full(), api.Neighbour{IP: 999}),
		{{IP: 5}, {IP: 5}}, {{IP: 6}, {IP: 5}}, {{IP: -1}}, {{IP: 1 << 32}}, {{Mac: -1}}, {{Mac: 1 << 48}}, {{Age: -1}}, {{Age: api.ArpAge + 1}}, {{IP: 1}, {IP: 2, Age: -1}},
	} {
		if m, e := arp.Learn(l, 1, 1); m != nil || e != api.ErrForm {
			t.Errorf("%d: Learn: %v, %v", i, m, e)
		}
		if m, e := arp.Find(l, 5); m != 0 || e != api.ErrForm {
			t.Errorf("%d: Find: %v, %v", i, m, e)
		}
		if m, e := arp.Tick(l); m != nil || e != api.ErrForm {
			t.Errorf("%d: Tick: %v, %v", i, m, e)
		}
	}
	for _, c := range [][2]int{{-1, 0}, {1 << 32, 0}, {0, -1}, {0, 1 << 48}} {
		if m, e := arp.Learn(good, c[0], c[1]); m != nil || e != api.ErrForm {
			t.Errorf("%v: %v, %v", c, m, e)
		}
	}
}

func TestFind(t *testing.T) {
	l := full()
	for _, c := range []struct {
		ip, mac int
		e       api.Errno
	}{{10, 0, api.OK}, {30, 2, api.OK}, {160, 15, api.OK}, {31, 0, api.ErrNone}, {-1, 0, api.ErrNone}, {1 << 40, 0, api.ErrNone}} {
		if mac, e := arp.Find(l, c.ip); mac != c.mac || e != c.e {
			t.Errorf("%d: %d, %v", c.ip, mac, e)
		}
	}
	if _, e := arp.Find(nil, 1); e != api.ErrNone {
		t.Error(e)
	}
}

func TestTick(t *testing.T) {
	l := []api.Neighbour{{IP: 1, Age: api.ArpAge - 1}, {IP: 2, Age: api.ArpAge}, {IP: 3}, {IP: 1<<32 - 1, Mac: 1<<48 - 1, Age: 7}}
	was := slices.Clone(l)
	got, e := arp.Tick(l)
	if !slices.Equal(got, []api.Neighbour{{IP: 1, Age: api.ArpAge}, {IP: 3, Age: 1}, {IP: 1<<32 - 1, Mac: 1<<48 - 1, Age: 8}}) || e != api.OK {
		t.Error(got, e)
	}
	if !slices.Equal(l, was) {
		t.Error("the argument was changed")
	}
	if got, e := arp.Tick(nil); len(got) != 0 || e != api.OK {
		t.Error(got, e)
	}
}

// TestHeardLast: of many, those that were heard of last are known.
func TestHeardLast(t *testing.T) {
	r := rand.New(rand.NewSource(1))
	var l []api.Neighbour
	last := map[int]int{} // when an IP was heard of
	for now := range 3000 {
		ip := r.Intn(30)
		l, _ = arp.Learn(l, ip, now)
		last[ip] = now
		l, _ = arp.Tick(l)
		if len(l) != min(len(last), api.MaxArp) {
			t.Fatal(len(l))
		}
		for _, n := range l {
			newer := 0
			for _, at := range last {
				if at > last[n.IP] {
					newer++
				}
			}
			if newer >= api.MaxArp || n.Mac != last[n.IP] || n.Age != now-last[n.IP]+1 {
				t.Fatalf("%v: %d are newer", n, newer)
			}
		}
	}
}
