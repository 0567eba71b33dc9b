package broker

import (
	"slices"
	"strings"

	"kiosk/api"
	"kiosk/kept"
	"kiosk/outbox"
	"kiosk/subs"
	"kiosk/twin"
)

// work is a broker at work, and what it says meanwhile.
type work struct {
	api.Broker
	says []api.Say
}

// newWork copies b, so that nothing of what was handed in is changed.
func newWork(b api.Broker) *work {
	return &work{Broker: twin.Broker(b)}
}

// place finds the session of that client, or where it belongs.
func place(l []api.Session, client string) (int, bool) {
	return slices.BinarySearchFunc(l, client, func(s api.Session, c string) int { return strings.Compare(s.Client, c) })
}

func (w *work) say(link int, l ...api.Mq) {
	for _, p := range l {
		w.says = append(w.says, api.Say{Link: link, Packet: p})
	}
}

// offer puts a message into the outbox of a session; where there is no room it is lost.
func (w *work) offer(s *api.Session, m api.Message) {
	o, l, e := outbox.Offer(s.Out, m, s.Link != 0)
	if e == api.OK {
		s.Out = o
		w.say(s.Link, l...)
	}
}

func (w *work) distribute(m api.Message) {
	for i := range w.Sessions {
		s := &w.Sessions[i]
		q, e := subs.Match(s.Subs, m.Topic)
		if e != api.OK {
			continue
		}
		if n := min(q, m.QoS); n > 0 {
			w.offer(s, api.Message{Topic: m.Topic, Payload: m.Payload, QoS: n})
		} else if s.Link != 0 {
			w.say(s.Link, api.Mq{Kind: api.MqPublish, Topic: m.Topic, Payload: m.Payload})
		}
	}
}

func (w *work) accept(m api.Message) {
	if m.Retain {
		if l, e := kept.Put(w.Kept, m); e == api.OK {
			w.Kept = l
		}
	}
	w.distribute(m)
}

func unlink(s *api.Session) {
	s.Link, s.Keep, s.Idle, s.Will = 0, 0, 0, api.Will{}
}

func (w *work) detach(at int) {
	s := &w.Sessions[at]
	will := s.Will
	unlink(s)
	if s.Clean {
		w.Sessions = slices.Delete(w.Sessions, at, at+1)
	}
	if will.Is {
		w.accept(api.Message{Topic: will.Topic, Payload: will.Payload, QoS: will.QoS, Retain: will.Retain})
	}
}

// forget ends a link, as when it is lost.
func (w *work) forget(link int) {
	if at := sessionOf(w.Broker, link); at >= 0 {
		w.detach(at)
		return
	}
	w.Links = slices.DeleteFunc(w.Links, func(l int) bool { return l == link })
}

func (w *work) drop(link int) {
	w.says = append(w.says, api.Say{Link: link, Drop: true})
	w.forget(link)
}

// idle lets a tick pass for a session that has a link.
func (w *work) idle(s *api.Session) {
	s.Idle = min(s.Idle+1, maxIdle)
	if s.Keep > 0 && 2*s.Idle > 3*s.Keep*api.Ticks {
		w.drop(s.Link)
	}
}
