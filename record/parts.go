package record

import (
	"kiosk/api"
	"kiosk/num"
)

const retainBit = 4 // above the QoS

// Strings and lists are short enough that a byte tells their length.
func appendString(x []byte, s string) []byte {
	return append(num.Append(x, 1, len(s)), s...)
}

func appendSession(x []byte, s api.Session) []byte {
	x = appendString(x, s.Client)
	x = num.Append(x, 1, len(s.Subs))
	for _, w := range s.Subs {
		x = num.Append(appendString(x, w.Filter), 1, w.QoS)
	}
	x = num.Append(x, 2, s.Out.Last)
	x = num.Append(x, 1, len(s.Out.Flight))
	for _, f := range s.Out.Flight {
		rec := 0
		if f.Rec {
			rec = 1
		}
		x = num.Append(num.Append(x, 2, f.ID), 1, rec)
		x = appendMessage(x, f.Message)
	}
	x = appendMessages(x, s.Out.Queue)
	x = num.Append(x, 1, len(s.In))
	for _, id := range s.In {
		x = num.Append(x, 2, id)
	}
	return x
}

func appendMessages(x []byte, l []api.Message) []byte {
	x = num.Append(x, 1, len(l))
	for _, m := range l {
		x = appendMessage(x, m)
	}
	return x
}

func appendMessage(x []byte, m api.Message) []byte {
	flags := m.QoS
	if m.Retain {
		flags |= retainBit
	}
	x = appendString(appendString(x, m.Topic), m.Payload)
	return num.Append(x, 1, flags)
}

// reader reads from the front. Behind the end it reads zeros: what is read so does not give the bytes again.
type reader struct {
	x []byte
}

func decode(x []byte) api.Broker {
	r := &reader{x: x}
	var b api.Broker
	for range r.number(1) {
		b.Sessions = append(b.Sessions, r.session())
	}
	b.Kept = r.messages()
	return b
}

func (r *reader) bytes(n int) []byte {
	n = min(n, len(r.x))
	x := r.x[:n]
	r.x = r.x[n:]
	return x
}

func (r *reader) number(n int) int { return num.Read(r.bytes(n)) }

func (r *reader) text() string { return string(r.bytes(r.number(1))) }

func (r *reader) session() api.Session {
	s := api.Session{Client: r.text()}
	for range r.number(1) {
		s.Subs = append(s.Subs, api.Wish{Filter: r.text(), QoS: r.number(1)})
	}
	s.Out.Last = r.number(2)
	for range r.number(1) {
		f := api.Flight{ID: r.number(2), Rec: r.number(1) == 1}
		f.Message = r.message()
		s.Out.Flight = append(s.Out.Flight, f)
	}
	s.Out.Queue = r.messages()
	for range r.number(1) {
		s.In = append(s.In, r.number(2))
	}
	return s
}

func (r *reader) messages() []api.Message {
	var l []api.Message
	for range r.number(1) {
		l = append(l, r.message())
	}
	return l
}

func (r *reader) message() api.Message {
	m := api.Message{Topic: r.text(), Payload: r.text()}
	flags := r.number(1)
	m.QoS, m.Retain = flags&^retainBit, flags&retainBit != 0
	return m
}
