// Package mem: memory: see ../../shared/doc/01-mem.md.
package mem

import (
	"slices"

	"kiosk/api"
)

// Mem is some. Its fields are the program's business.
type Mem struct {
	b []byte
}

func New(n int) (*Mem, api.Errno) {
	if n < 0 || n > api.MaxMem {
		return nil, api.ErrForm
	}
	return &Mem{b: make([]byte, n)}, api.OK
}

func (m *Mem) Len() int { return len(m.b) }

func (m *Mem) Get(at int, n int) (uint64, api.Errno) {
	var v uint64
	e := m.number(at, n)
	if e != api.OK {
		goto end
	}
	for i := n - 1; i >= 0; i-- {
		v = v<<8 | uint64(m.b[at+i])
	}
end:
	return v, e
}

func (m *Mem) Put(at int, n int, v uint64) api.Errno {
	e := m.number(at, n)
	if e != api.OK {
		goto end
	}
	for i := range n {
		m.b[at+i] = byte(v >> (8 * i))
	}
end:
	return e
}

func (m *Mem) Read(at int, n int) ([]byte, api.Errno) {
	if n < 0 {
		return nil, api.ErrForm
	}
	if !m.has(at, n) {
		return nil, api.ErrLimit
	}
	return slices.Clone(m.b[at : at+n]), api.OK
}

func (m *Mem) Write(at int, b []byte) api.Errno {
	if !m.has(at, len(b)) {
		return api.ErrLimit
	}
	copy(m.b[at:], b)
	return api.OK
}

// number tells what is wrong with a number of n bytes at that place.
func (m *Mem) number(at, n int) api.Errno {
	switch {
	case n != 1 && n != 2 && n != 4 && n != 8:
		return api.ErrForm
	case !m.has(at, n):
		return api.ErrLimit
	}
	return api.OK
}

// has holds n against what is left: at + n could go round.
func (m *Mem) has(at, n int) bool {
	return at >= 0 && at <= len(m.b)-n
}
