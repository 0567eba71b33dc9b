package nic

import (
	"kiosk/api"
	"kiosk/mem"
	"kiosk/ring"
)

const (
	minFrame  = 14
	slotBytes = 2048 // room for a frame
)

// lane is a ring with a memory of its own, and the memories of its buffers: one alone is too small for all of them. The upper part of an address is the number of the memory.
type lane struct {
	driver *ring.Driver
	device *ring.Device
	banks  []*mem.Mem
}

// newLane makes a lane with q slots, a power of two up to api.MaxRing.
func newLane(q int) *lane {
	_, _, size, _ := ring.Layout(q)
	m, _ := mem.New(size)
	l := &lane{}
	l.driver, _ = ring.NewDriver(m, q)
	l.device, _ = ring.NewDevice(m, q)
	for at := 0; at < q*slotBytes; at += api.MaxMem {
		bank, _ := mem.New(min(q*slotBytes-at, api.MaxMem))
		l.banks = append(l.banks, bank)
	}
	return l
}

// lend gives a slot to the device, to be written.
func (l *lane) lend(slot int) {
	l.driver.Add([]api.Buf{{Addr: slot * slotBytes, Len: api.MaxFrame, Write: true}})
}

// reclaim takes back what the device has read.
func (l *lane) reclaim() {
	for ok := true; ok; {
		_, _, ok, _ = l.driver.Used()
	}
}

func (l *lane) write(at int, b []byte) {
	l.banks[at/api.MaxMem].Write(at%api.MaxMem, b)
}

func (l *lane) read(at, n int) []byte {
	b, _ := l.banks[at/api.MaxMem].Read(at%api.MaxMem, n)
	return b
}

func goodFrame(b []byte) bool {
	return len(b) >= minFrame && len(b) <= api.MaxFrame
}
