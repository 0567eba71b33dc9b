// Package twin: copies that share no memory with what they are copies of.
package twin

import (
	"slices"

	"kiosk/api"
)

func Buffer(b api.Buffer) api.Buffer {
	b.Parts = slices.Clone(b.Parts)
	for i := range b.Parts {
		b.Parts[i].Data = slices.Clone(b.Parts[i].Data)
	}
	return b
}

func Conn(c api.Conn) api.Conn {
	c.Out = slices.Clone(c.Out)
	c.In = Buffer(c.In)
	return c
}

func Host(h api.Host) api.Host {
	h.Conns = slices.Clone(h.Conns)
	for i := range h.Conns {
		h.Conns[i] = Conn(h.Conns[i])
	}
	return h
}

func Outbox(o api.Outbox) api.Outbox {
	o.Flight = slices.Clone(o.Flight)
	o.Queue = slices.Clone(o.Queue)
	return o
}

func Session(s api.Session) api.Session {
	s.Subs = slices.Clone(s.Subs)
	s.Out = Outbox(s.Out)
	s.In = slices.Clone(s.In)
	return s
}

func Broker(b api.Broker) api.Broker {
	b.Links = slices.Clone(b.Links)
	b.Kept = slices.Clone(b.Kept)
	b.Sessions = slices.Clone(b.Sessions)
	for i := range b.Sessions {
		b.Sessions[i] = Session(b.Sessions[i])
	}
	return b
}
