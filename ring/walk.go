package ring

import (
	"kiosk/api"
	"kiosk/mem"
)

const (
	descBytes = 16

	flagNext  = 1 // the chain goes on
	flagWrite = 2 // the device writes
	flagsAll  = flagNext | flagWrite

	maxAddr = 1 << 32
	maxLen  = 1 << 16
)

// place is where a ring lies; q is 0 in one that nobody made.
type place struct {
	m     *mem.Mem
	q     int
	avail int
	used  int
}

func lay(m *mem.Mem, q int) (place, api.Errno) {
	avail, used, size, e := Layout(q)
	if m == nil || e != api.OK {
		return place{}, api.ErrForm
	}
	if m.Len() < size {
		return place{}, api.ErrLimit
	}
	return place{m: m, q: q, avail: avail, used: used}, api.OK
}

func goodSize(q int) bool {
	return q >= 1 && q <= api.MaxRing && q&(q-1) == 0
}

// number reads at most 4 bytes, so it always fits.
func (p place) number(at, n int) int {
	v, _ := p.m.Get(at, n)
	return int(v)
}

func goodBuf(b api.Buf) bool {
	return b.Addr >= 0 && b.Addr <= maxAddr && b.Len >= 1 && b.Len <= maxLen
}

func goodBufs(l []api.Buf) (ok bool) {
	written := false
	if len(l) < 1 || len(l) > api.MaxBufs {
		goto end
	}
	for _, b := range l {
		if !goodBuf(b) || written && !b.Write {
			goto end
		}
		written = b.Write
	}
	ok = true
end:
	return ok
}

// smallestFree finds the n smallest free descriptors, or fewer if there aren't as many.
func (d *Driver) smallestFree(n int) []int {
	var ids []int
	for i, taken := range d.taken {
		if len(ids) == n {
			break
		}
		if !taken {
			ids = append(ids, i)
		}
	}
	return ids
}

// take writes a chain of these descriptors, and keeps what it needs to know of it: the memory may be changed by others.
func (d *Driver) take(ids []int, l []api.Buf) {
	head, room := ids[0], 0
	for k, id := range ids {
		flags, next := 0, 0
		if k+1 < len(ids) {
			flags, next = flagNext, ids[k+1]
		}
		if l[k].Write {
			flags |= flagWrite
			room += l[k].Len
		}
		at := descBytes * id
		d.m.Put(at, 8, uint64(l[k].Addr))
		d.m.Put(at+8, 4, uint64(l[k].Len))
		d.m.Put(at+12, 2, uint64(flags))
		d.m.Put(at+14, 2, uint64(next))
		d.taken[id] = true
	}
	d.chains[head], d.room[head] = ids, room
	d.inUse++
}

func (d *Driver) release(head int) {
	for _, id := range d.chains[head] {
		d.taken[id] = false
	}
	d.chains[head], d.room[head] = nil, 0
	d.inUse--
}

// chain follows a chain from its head. It may go in a circle, so the steps are counted.
func (d *Device) chain(head int) (l []api.Buf, ok bool) {
	var addr uint64
	flags, at := flagNext, 0
	for id := head; flags&flagNext != 0; id = d.number(at+14, 2) {
		if id >= d.q || len(l) == api.MaxBufs || len(l) == d.q {
			goto wrong
		}
		at = descBytes * id
		addr, _ = d.m.Get(at, 8)
		flags = d.number(at+12, 2)
		if flags > flagsAll {
			goto wrong
		}
		// An address that is too great for an int is below 0, and not valid either.
		l = append(l, api.Buf{Addr: int(addr), Len: d.number(at+8, 4), Write: flags&flagWrite != 0})
	}
	if !goodBufs(l) {
		goto wrong
	}
	return l, true
wrong:
	return nil, false
}
