package broker

import (
	"slices"
	"strconv"

	"kiosk/api"
	"kiosk/kept"
	"kiosk/outbox"
	"kiosk/subs"
	"kiosk/topic"
)

// Codes of CONNACK and SUBACK.
const (
	badName = 2
	noRoom  = 3
	refused = 128
)

// connect processes the packet with which a client comes on a link.
func (w *work) connect(link int, p api.Mq) {
	var at int
	var there bool
	code := 0
	name := p.Client
	if name == "" {
		name = "~" + strconv.Itoa(link)
	}
	if p.Client == "" && !p.Clean {
		code = badName
		goto refuse
	}
	if p.Will.Is && topic.Name(p.Will.Topic) != api.OK {
		goto drop
	}
	if at, there = place(w.Sessions, name); there && w.Sessions[at].Link != 0 {
		w.drop(w.Sessions[at].Link)
	}
	if at, there = place(w.Sessions, name); !there && len(w.Sessions) == api.MaxSessions {
		code = noRoom
		goto refuse
	}
	if !there {
		w.Sessions = slices.Insert(w.Sessions, at, api.Session{Client: name})
	} else if p.Clean {
		w.Sessions[at] = api.Session{Client: name}
	}
	w.forget(link)
	w.attach(&w.Sessions[at], link, p)
	w.say(link, api.Mq{Kind: api.MqConnack, Present: there && !p.Clean})
	w.resume(&w.Sessions[at])
	return
refuse:
	w.say(link, api.Mq{Kind: api.MqConnack, Code: code})
drop:
	w.drop(link)
}

func (w *work) attach(s *api.Session, link int, p api.Mq) {
	s.Link, s.Clean, s.Will, s.Keep, s.Idle = link, p.Clean, p.Will, p.KeepAlive, 0
}

func (w *work) resume(s *api.Session) {
	o, l, _ := outbox.Resume(s.Out)
	s.Out = o
	w.say(s.Link, l...)
}

// packet processes a packet of a client that has a session.
func (w *work) packet(at int, p api.Mq) {
	s := &w.Sessions[at]
	link := s.Link
	s.Idle = 0
	switch p.Kind {
	case api.MqPublish:
		w.publish(s, p)
	case api.MqPubrel:
		s.In = slices.DeleteFunc(s.In, func(id int) bool { return id == p.ID })
		w.say(link, api.Mq{Kind: api.MqPubcomp, ID: p.ID})
	case api.MqPuback:
		w.answered(s, p, outbox.Ack)
	case api.MqPubrec:
		w.answered(s, p, outbox.Rec)
	case api.MqPubcomp:
		w.answered(s, p, outbox.Comp)
	case api.MqSubscribe:
		w.subscribe(s, p)
	case api.MqUnsubscribe:
		for _, f := range p.Filters {
			if l, e := subs.Drop(s.Subs, f); e == api.OK {
				s.Subs = l
			}
		}
		w.say(link, api.Mq{Kind: api.MqUnsuback, ID: p.ID})
	case api.MqPingreq:
		w.say(link, api.Mq{Kind: api.MqPingresp})
	case api.MqDisconnect:
		s.Will = api.Will{}
		w.drop(link)
	default:
		w.drop(link)
	}
}

func (w *work) publish(s *api.Session, p api.Mq) {
	m := api.Message{Topic: p.Topic, Payload: p.Payload, QoS: p.QoS, Retain: p.Retain}
	switch p.QoS {
	case 0:
		w.accept(m)
	case 1:
		w.accept(m)
		w.say(s.Link, api.Mq{Kind: api.MqPuback, ID: p.ID})
	case 2:
		at, there := slices.BinarySearch(s.In, p.ID)
		if !there && len(s.In) == api.MaxIn {
			w.drop(s.Link)
			return
		}
		if !there {
			s.In = slices.Insert(s.In, at, p.ID)
			w.accept(m)
		}
		w.say(s.Link, api.Mq{Kind: api.MqPubrec, ID: p.ID})
	}
}

// answered processes what a client says to a message that it was sent.
func (w *work) answered(s *api.Session, p api.Mq, f func(api.Outbox, int) (api.Outbox, []api.Mq, api.Errno)) {
	o, l, e := f(s.Out, p.ID)
	switch {
	case e == api.OK:
		s.Out = o
		w.say(s.Link, l...)
	case p.Kind == api.MqPubrec:
		w.say(s.Link, api.Mq{Kind: api.MqPubrel, ID: p.ID})
	}
}

func (w *work) subscribe(s *api.Session, p api.Mq) {
	codes := make([]int, len(p.Wishes))
	for i, wish := range p.Wishes {
		codes[i] = refused
		if l, e := subs.Add(s.Subs, wish); e == api.OK {
			s.Subs, codes[i] = l, wish.QoS
		}
	}
	w.say(s.Link, api.Mq{Kind: api.MqSuback, ID: p.ID, Codes: codes})
	for i, wish := range p.Wishes {
		if codes[i] != refused {
			w.sendKept(s, wish)
		}
	}
}

// sendKept sends the retained messages that a new subscription asks for.
func (w *work) sendKept(s *api.Session, wish api.Wish) {
	l, _ := kept.Match(w.Kept, wish.Filter)
	for _, m := range l {
		m.QoS = min(m.QoS, wish.QoS)
		if m.QoS > 0 {
			w.offer(s, m)
		} else {
			w.say(s.Link, api.Mq{Kind: api.MqPublish, Topic: m.Topic, Payload: m.Payload, Retain: true})
		}
	}
}
