package disk

import (
	"slices"

	"kiosk/api"
)

// Kinds of requests.
const (
	toWrite = iota
	toRead
	toFlush
)

type request struct {
	id   int
	kind int
	n    int
	b    []byte
}

// power counts a call, and tells whether there is power for it.
func (d *Disk) power() bool {
	if d.armed && !d.off {
		d.left--
		d.off = d.left < 1
	}
	return !d.off
}

func (d *Disk) ask(kind, n int, b []byte) (int, api.Errno) {
	id := 0
	e := api.OK
	if !d.power() {
		e = api.ErrPower
		goto end
	}
	if kind != toFlush && (n < 0 || n >= d.Sectors()) || kind == toWrite && len(b) != api.Sector {
		e = api.ErrForm
		goto end
	}
	if len(d.pending) >= api.MaxRequests {
		e = api.ErrFull
		goto end
	}
	d.last++
	id = d.last
	d.pending = append(d.pending, request{id: id, kind: kind, n: n, b: slices.Clone(b)})
end:
	return id, e
}

// perform does what was asked, and returns what was read.
func (d *Disk) perform(r request) []byte {
	switch r.kind {
	case toRead:
		return slices.Clone(d.sector(r.n))
	case toWrite:
		copy(d.sector(r.n), r.b)
		if !d.dirty[r.n] {
			d.dirty[r.n] = true
			d.written = append(d.written, r.n)
		}
	case toFlush:
		for _, n := range d.written {
			copy(d.durable[n*api.Sector:], d.sector(n))
			d.dirty[n] = false
		}
		d.written = nil
	}
	return nil
}

// sector is the place of a sector as it was written last.
func (d *Disk) sector(n int) []byte {
	return d.now[n*api.Sector : (n+1)*api.Sector]
}

// kept tells how many bytes of what was written last a pick leaves: none for 0, all for 1, else one less than it.
func kept(p int) int {
	const kinds = api.Sector + 2
	p = (p%kinds + kinds) % kinds
	switch p {
	case 0:
		return 0
	case 1:
		return api.Sector
	}
	return p - 1
}
