package kernel

import (
	"kiosk/api"
	"kiosk/arp"
	"kiosk/broker"
	"kiosk/host"
	"kiosk/pack"
	"kiosk/stream"
)

func (t *turn) segment(from int, s api.Seg) {
	count := t.host.Count
	h, l, heard, e := host.Take(t.host, from, s)
	if t.use(h, l, e) != api.OK {
		return
	}
	if h.Count > count {
		t.open(h.Count)
	}
	for _, x := range heard {
		t.hear(x)
	}
}

// open tells the broker of a new connection; one that it has no room for ends.
func (t *turn) open(link int) {
	b, e := broker.Open(t.broker, link)
	if e != api.OK {
		t.use(host.Abort(t.host, link))
		return
	}
	t.broker = b
}

// hear processes what came on a connection.
func (t *turn) hear(x api.Heard) {
	packets, left, bad := stream.Feed(t.rest(x.Link), x.Data)
	t.setRest(x.Link, left)
	says, dropped := t.ask(x.Link, packets)
	t.say(says)
	if bad != api.OK && !dropped || x.End {
		t.say(t.lose(x.Link))
		t.use(host.Close(t.host, x.Link))
	}
}

// ask hands packets to the broker until it drops the link, and tells whether it does.
func (t *turn) ask(link int, l []api.Mq) (says []api.Say, dropped bool) {
	for _, p := range l {
		b, more, e := broker.Take(t.broker, link, p)
		if e != api.OK { // it doesn't know the link
			goto end
		}
		t.broker, t.changed = b, true
		says = append(says, more...)
		for _, s := range more {
			dropped = dropped || s.Drop && s.Link == link
		}
		if dropped {
			goto end
		}
	}
end:
	return says, dropped
}

// lose tells the broker that a link is lost, if it knows the link.
func (t *turn) lose(link int) []api.Say {
	b, says, e := broker.Lost(t.broker, link)
	if e == api.OK {
		t.broker, t.changed = b, true
	}
	return says
}

// say says what the broker says. What comes of links that are lost thereby is said behind everything else.
func (t *turn) say(l []api.Say) {
	var behind []api.Say
	for len(l) > 0 {
		for _, s := range l {
			if s.Drop {
				t.hangUp(s.Link)
			} else {
				behind = append(behind, t.tell(s)...)
			}
		}
		l, behind = behind, nil
	}
}

func (t *turn) hangUp(link int) {
	if t.use(host.Close(t.host, link)) != api.OK {
		t.use(host.Abort(t.host, link))
	}
}

// tell sends a packet. A connection that can't take it ends, and what the broker says to that is returned.
func (t *turn) tell(s api.Say) []api.Say {
	b, e := pack.Bytes(s.Packet)
	if e != api.OK {
		return nil
	}
	if e = t.use(host.Send(t.host, s.Link, b)); e == api.OK || e == api.ErrNone {
		return nil
	}
	t.use(host.Abort(t.host, s.Link))
	return t.lose(s.Link)
}

func (t *turn) tick() {
	t.near, _ = arp.Tick(t.near)
	var says []api.Say
	h, l, ended, e := host.Tick(t.host)
	t.use(h, l, e)
	for _, x := range ended {
		says = append(says, t.lose(x.Link)...)
	}
	b, more, _ := broker.Tick(t.broker)
	t.broker = b
	t.changed = t.changed || len(more) > 0 // else only clocks went on
	t.say(append(says, more...))
}
