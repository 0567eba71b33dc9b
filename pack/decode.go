package pack

import (
	"kiosk/api"
	"kiosk/num"
)

const maxLengthBytes = 4

// measure reads how long a packet is: what is before the body, and the body.
func measure(b []byte) (head, size int, e api.Errno) {
	e = api.ErrCut
	if len(b) == 0 {
		goto end
	}
	for k := range maxLengthBytes {
		if len(b) < k+2 {
			goto end
		}
		x := int(b[k+1])
		size |= x % more << (7 * k)
		if x < more && (x > 0 || k == 0) {
			return k + 2, size, api.OK
		}
		if x < more {
			break // a group of zeros that nobody needs
		}
	}
	e = api.ErrForm
end:
	return 0, 0, e
}

// reader reads a body from its front. Behind its end it reads zeros: what is read so does not give the body again.
type reader struct {
	b []byte
}

func (r *reader) bytes(n int) []byte {
	n = min(n, len(r.b))
	x := r.b[:n]
	r.b = r.b[n:]
	return x
}

func (r *reader) number(n int) int { return num.Read(r.bytes(n)) }

func (r *reader) text() string { return string(r.bytes(r.number(2))) }

// decode reads a packet from its first byte and its body. What it reads is checked by encoding it again.
func decode(first int, body []byte) api.Mq {
	p := api.Mq{Kind: first >> 4}
	r := &reader{b: body}
	switch p.Kind {
	case api.MqConnect:
		r.connect(&p)
	case api.MqConnack:
		p.Present = r.number(1) == 1
		p.Code = r.number(1)
	case api.MqPublish:
		r.publish(&p, first)
	case api.MqPuback, api.MqPubrec, api.MqPubrel, api.MqPubcomp, api.MqUnsuback:
		p.ID = r.number(2)
	case api.MqSubscribe, api.MqSuback, api.MqUnsubscribe:
		p.ID = r.number(2)
		r.list(&p)
	}
	return p
}

func (r *reader) connect(p *api.Mq) {
	name := r.text()
	version := r.number(1)
	flags := r.number(1)
	if name != protocol || version != level {
		goto wrong
	}
	p.Clean = flags&flagClean != 0
	p.KeepAlive = r.number(2)
	p.Client = r.text()
	if flags&flagWill != 0 {
		p.Will = api.Will{Is: true, Topic: r.text(), Payload: r.text(), QoS: flags >> willQoSShift & 3, Retain: flags&flagWillRetain != 0}
	}
	if p.HasUser = flags&flagUser != 0; p.HasUser {
		p.User = r.text()
	}
	if p.HasPass = flags&flagPass != 0; p.HasPass {
		p.Pass = r.text()
	}
	return
wrong:
	p.Kind = api.MqNone
}

func (r *reader) publish(p *api.Mq, first int) {
	p.Dup = first&flagDup != 0
	p.QoS = first >> qosShift & 3
	p.Retain = first&flagRetain != 0
	p.Topic = r.text()
	if p.QoS > 0 {
		p.ID = r.number(2)
	}
	p.Payload = string(r.b)
}

// list reads the elements of a list up to the end of the body; of too many the rest does not matter.
func (r *reader) list(p *api.Mq) {
	for k := 0; len(r.b) > 0 && k <= api.MaxWishes; k++ {
		switch p.Kind {
		case api.MqSubscribe:
			p.Wishes = append(p.Wishes, api.Wish{Filter: r.text(), QoS: r.number(1)})
		case api.MqSuback:
			p.Codes = append(p.Codes, r.number(1))
		case api.MqUnsubscribe:
			p.Filters = append(p.Filters, r.text())
		}
	}
}
